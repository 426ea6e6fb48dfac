/-
  Package wire: the law Memory, over what is asked of the program. Condition: none.
-/
import Derived.Test.YteaidfocbhadjaaWireL3
import Derived.Laws.OwnMore
namespace Go.Proofs.Yteaidfocbhadjaa.WirW
open Go.ChangeShapes Go.WideShapes Go.ChangeAt Go.RowKit
open PairW CelW WirP
/-- A slice of one's own: its block, where it lies, and what it holds. -/
theorem row_place {w w' : World} {n : Nat} {v : Value} {xs : List Value} (h : w'.ownsRow w.heap.size 5 1 v n xs) (h0 : 0 < n) : ∃ g c, v = .slice (some ⟨g, 0, none⟩) n c ∧ w.heap.size ≤ g ∧ g < w'.heap.size := by
  obtain ⟨g, c, rfl⟩ := own_form h h0
  have := h.lt g rfl
  exact ⟨g, c, rfl, this.1, this.2⟩
theorem row_low {w : World} {b0 b : Nat} {e : TypeId} {sv : Value} {n : Nat} {xs : List Value} (h : w.ownsRow b e 1 sv n xs) (hb : b0 ≤ b) : w.ownsRow b0 e 1 sv n xs := by
  refine ⟨h.1, h.2.imp id ?_⟩
  rintro ⟨g, cap, cur, h1, h2, h3⟩
  exact ⟨g, cap, cur, h1, by omega, h3⟩
theorem put_m (C : PutC) (b : Bs) (v : Value) (N : Int) (B : Bs) (k H : Nat) (w : World) (HB : Hid (Cel w v (cellsU b))) (hn : I64 N) (hl : b.length ≤ 1000000000000) (h : b ++ encI N = B) (hk : B.length = k) (h0 : 0 < k) (hH : H ≤ w.heap.size) :
    Calls Try.prog 14 #[v, .int .i64 N] w fun e w' => ∃ g c, e = .returned (.slice (some ⟨g, 0, none⟩) k c) ∧ w'.ownsRow H 5 1 (.slice (some ⟨g, 0, none⟩) k c) k (cellsU B) ∧ w.heap.size ≤ g ∧ g < w'.heap.size ∧ Own w w' := by
  subst hk
  refine (C.int b v N w HB hn (by omega)).mono ?_
  rintro e w1 ⟨v1, rfl, hown, q⟩
  rw [h] at hown
  obtain ⟨g, c, rfl, h1, h2⟩ := row_place hown h0
  exact ⟨g, c, rfl, row_low hown hH, h1, h2, q⟩
theorem puttext_m (C : PutC) (b : Bs) (v : Value) (s : ByteArray) (B : Bs) (k H : Nat) (w : World) (HB : Hid (Cel w v (cellsU b))) (hl : b.length + s.size ≤ 1000000000000) (h : b ++ encT s.data.toList = B) (hk : B.length = k) (h0 : 0 < k) (hH : H ≤ w.heap.size) :
    Calls Try.prog 20 #[v, .string s] w fun e w' => ∃ g c, e = .returned (.slice (some ⟨g, 0, none⟩) k c) ∧ w'.ownsRow H 5 1 (.slice (some ⟨g, 0, none⟩) k c) k (cellsU B) ∧ w.heap.size ≤ g ∧ g < w'.heap.size ∧ Own w w' := by
  subst hk
  refine (C.text b v s w HB hl).mono ?_
  rintro e w1 ⟨v1, rfl, hown, q⟩
  rw [h] at hown
  obtain ⟨g, c, rfl, h1, h2⟩ := row_place hown h0
  exact ⟨g, c, rfl, row_low hown hH, h1, h2, q⟩
theorem putlist_m (C : PutC) (b : Bs) (l : List Int) (v vl : Value) (B : Bs) (k H : Nat) (w : World) (HB : Hid (Cel w v (cellsU b))) (HL : Hid (Cel w vl (cellsI l))) (hi : In64 l) (hl : b.length + 10 * (l.length + 1) ≤ 1000000000000) (h : b ++ encL l = B) (hk : B.length = k) (h0 : 0 < k) (hH : H ≤ w.heap.size) :
    Calls Try.prog 25 #[v, vl] w fun e w' => ∃ g c, e = .returned (.slice (some ⟨g, 0, none⟩) k c) ∧ w'.ownsRow H 5 1 (.slice (some ⟨g, 0, none⟩) k c) k (cellsU B) ∧ w.heap.size ≤ g ∧ g < w'.heap.size ∧ Own w w' := by
  subst hk
  refine (C.list b l v vl w HB HL hi hl).mono ?_
  rintro e w1 ⟨v1, rfl, hown, q⟩
  rw [h] at hown
  obtain ⟨g, c, rfl, h1, h2⟩ := row_place hown h0
  exact ⟨g, c, rfl, row_low hown hH, h1, h2, q⟩
/-- Three rows of one's own, in three blocks. -/
structure Tri (w : World) (H g1 c1 n1 g2 c2 n2 g3 c3 n3 : Nat) (x1 x2 x3 : List Value) : Prop where
  r1 : w.ownsRow H 5 1 (.slice (some ⟨g1, 0, none⟩) n1 c1) n1 x1
  r2 : w.ownsRow H 5 1 (.slice (some ⟨g2, 0, none⟩) n2 c2) n2 x2
  r3 : w.ownsRow H 5 1 (.slice (some ⟨g3, 0, none⟩) n3 c3) n3 x3
  d12 : g1 ≠ g2
  d13 : g1 ≠ g3
  d23 : g2 ≠ g3
section
variable {w : World} {H g1 c1 n1 g2 c2 n2 g3 c3 n3 : Nat} {x1 x2 x3 : List Value}
theorem Tri.set1 {j : Nat} {u : Value} (h : Tri w H g1 c1 n1 g2 c2 n2 g3 c3 n3 x1 x2 x3) : Tri (w.setCell ⟨g1, j, none⟩ u) H g1 c1 n1 g2 c2 n2 g3 c3 n3 (x1.set j u) x2 x3 :=
  ⟨(h.r1.stored j u).1, row_set h.r2 h.d12 u, row_set h.r3 h.d13 u, h.d12, h.d13, h.d23⟩
theorem Tri.set2 {j : Nat} {u : Value} (h : Tri w H g1 c1 n1 g2 c2 n2 g3 c3 n3 x1 x2 x3) : Tri (w.setCell ⟨g2, j, none⟩ u) H g1 c1 n1 g2 c2 n2 g3 c3 n3 x1 (x2.set j u) x3 :=
  ⟨row_set h.r1 (Ne.symm h.d12) u, (h.r2.stored j u).1, row_set h.r3 h.d23 u, h.d12, h.d13, h.d23⟩
theorem Tri.set3 {j : Nat} {u : Value} (h : Tri w H g1 c1 n1 g2 c2 n2 g3 c3 n3 x1 x2 x3) : Tri (w.setCell ⟨g3, j, none⟩ u) H g1 c1 n1 g2 c2 n2 g3 c3 n3 x1 x2 (x3.set j u) :=
  ⟨row_set h.r1 (Ne.symm h.d13) u, row_set h.r2 (Ne.symm h.d23) u, (h.r3.stored j u).1, h.d12, h.d13, h.d23⟩
theorem Tri.own {w' : World} (h : Tri w H g1 c1 n1 g2 c2 n2 g3 c3 n3 x1 x2 x3) (q : Own w w') : Tri w' H g1 c1 n1 g2 c2 n2 g3 c3 n3 x1 x2 x3 :=
  ⟨row_own h.r1 q, row_own h.r2 q, row_own h.r3 q, h.d12, h.d13, h.d23⟩
end
theorem cel_at {w : World} {g o n c : Nat} {xs : List Value} (h : Cel w (.slice (some ⟨g, o, none⟩) n c) xs) {i : Nat} {u : Value} (hu : xs[i]? = some u) : w.cell? ⟨g, o + i, none⟩ = some u := by
  have := (cel_open h).2.2 _ rfl i u hu
  rwa [Addr.add_lit] at this
theorem set_u8 (X : Bs) (j : Nat) (z : Nat) (hz : z < 256) : (cellsU X).set j (.int .u8 (z : Int)) = cellsU (X.set j (byteN z)) := by
  unfold cellsU
  rw [List.map_set, byte_of hz]
theorem wrap_u8 (a d : Nat) : ∃ y : Nat, IntKind.u8.wrap ((a : Int) + d) = (y : Int) ∧ y < 256 := by
  refine ⟨(a + d) % 256, ?_, Nat.mod_lt _ (by decide)⟩
  unfold IntKind.wrap
  simp [IntKind.signed, IntKind.bits]
theorem row_set_below {w : World} {base n : Nat} {e : TypeId} {v : Value} {xs : List Value} (h : w.ownsRow base e 1 v n xs) {p : Addr} (hp : p.block < base) (u : Value) : (w.setCell p u).ownsRow base e 1 v n xs := by
  refine ⟨h.1, h.2.imp id ?_⟩
  rintro ⟨g', cap', cur, h1, h2, h3, h4⟩
  refine ⟨g', cap', cur, h1, h2, ?_, h4⟩
  rw [Below.heap_setCell _ _ _ _ (by omega)]
  exact h3
theorem takelist_row (D : TakeC) (b : Bs) (V : List Int) (n H : Nat) (v : Value) (most f : Int) (m : Nat) (w : World) (HB : Hid (Cel w v (cellsU b))) (hb : b.length ≤ 1000000000000) (hm : I64 most) (HT : Hid (listE b most = f ∧ listV b most = V ∧ listK b most = m)) (hn : V.length = n) (hH : H ≤ w.heap.size) :
    Calls Try.prog 22 #[v, .int .i64 most] w fun e w' => ∃ A c, e = .returned (.tuple #[.slice A n c, .int .i64 (m : Int), .int .i64 f]) ∧ w'.ownsRow H 3 1 (.slice A n c) n (cellsI V) ∧ Own w w' := by
  subst hn
  refine (D.list b V v most f m w HB hb hm HT).mono ?_
  rintro e w1 ⟨vl, rfl, hown, q⟩
  obtain ⟨A, c, rfl⟩ := row_shape hown
  exact ⟨A, c, rfl, row_low hown hH, q⟩
def twelve : Bs := [1, 2, 3, 4, 5, 6, 7, 8, 9, 10, 11, 12]
set_option maxRecDepth 100000 in
set_option maxHeartbeats 4000000 in
theorem lmemory_at (C : PutC) (D : TakeC) (N : Int) (s : ByteArray) (l : List Int) (vl : Value) (b : Bs) (vb : Value) (w : World) (HL : Hid (Cel w vl (cellsI l))) (hi : In64 l) (HB : Hid (Cel w vb (cellsU b))) (hn : I64 N) (hsl : s.size + l.length ≤ 10000000) (hb : b.length ≤ 10000000) :
    Calls Try.prog 10 #[.agg #[.int .i64 N, .string s, vl], vb] w fun e w' => e = .returned (.bool true) ∧ Own w w' := by
  obtain ⟨i0, hi0, hz0, hz1, hz2⟩ := info_parts (show (Try.prog.info? 5).map (fun i => (i.zero, i.size, i.bytes)) = some (some (.int .u8 0), 1, 1) by kernel_rfl)
  have HI0 := Lib.hid hi0
  have HZ0 := Lib.hid hz0
  have HZ1 := Lib.hid hz1
  have HZ2 := Lib.hid hz2
  clear hi0 hz0 hz1 hz2
  obtain ⟨z, hz⟩ : ∃ z, s.size = z := ⟨_, rfl⟩
  obtain ⟨y, hy⟩ : ∃ y, l.length = y := ⟨_, rfl⟩
  have hsd : s.data.toList.length = z := by rw [← hz]; exact Array.length_toList
  obtain ⟨B0, hB0⟩ : ∃ B, b ++ twelve = B := ⟨_, rfl⟩
  obtain ⟨B1, hB1⟩ : ∃ B, b ++ encI N = B := ⟨_, rfl⟩
  obtain ⟨B2, hB2⟩ : ∃ B, b ++ encT s.data.toList = B := ⟨_, rfl⟩
  obtain ⟨B3, hB3⟩ : ∃ B, b ++ encL l = B := ⟨_, rfl⟩
  obtain ⟨nb, hnb⟩ : ∃ n, b.length = n := ⟨_, rfl⟩
  obtain ⟨n0, hn0⟩ : ∃ n, B0.length = n := ⟨_, rfl⟩
  obtain ⟨n1, hn1⟩ : ∃ n, B1.length = n := ⟨_, rfl⟩
  obtain ⟨n2, hn2⟩ : ∃ n, B2.length = n := ⟨_, rfl⟩
  obtain ⟨n3, hn3⟩ : ∃ n, B3.length = n := ⟨_, rfl⟩
  have b0 : n0 = nb + 12 := by rw [← hn0, ← hB0, List.length_append, hnb]; rfl
  have b1 : nb < n1 := by
    have h2 := enc_len N
    rw [← hn1, ← hB1, List.length_append, hnb]
    omega
  have b2 : nb < n2 := by
    have h2 := enc_len (z : Int)
    rw [← hn2, ← hB2, List.length_append, hnb]
    unfold encT
    rw [List.length_append, hsd]
    omega
  have b3 : nb < n3 ∧ n3 ≤ 1000000000 := by
    have h1 := enc_ten (n := (y : Int)) (by omega)
    have h2 := enc_len (y : Int)
    have h3 := encs_len l hi
    rw [← hn3, ← hB3, List.length_append, hnb]
    unfold encL
    rw [List.length_append, hy]
    omega
  have F3 := Lib.hid (show listE (encL l) y = 0 ∧ listV (encL l) y = l ∧ listK (encL l) y = (encL l).length by
    have h := list_enc (l := l) (by omega) hi [] (most := (y : Int)) (by rw [hy]; exact Int.le_refl _)
    rwa [List.append_nil] at h)
  have D0 := Lib.hid (show ∀ i, i < 12 → (cellsU B0)[nb + i]? = some (.int .u8 ((i : Int) + 1)) from fun i h => by
    rw [← hB0, cellsU_app, List.getElem?_append_right (by rw [cellsU_len]; omega), cellsU_len, hnb, Nat.add_sub_cancel_left]
    have : i = 0 ∨ i = 1 ∨ i = 2 ∨ i = 3 ∨ i = 4 ∨ i = 5 ∨ i = 6 ∨ i = 7 ∨ i = 8 ∨ i = 9 ∨ i = 10 ∨ i = 11 := by omega
    rcases this with rfl | rfl | rfl | rfl | rfl | rfl | rfl | rfl | rfl | rfl | rfl | rfl <;> rfl)
  have HN := Lib.hid hn
  have HI := Lib.hid hi
  have E0 := Lib.hid hB0
  have E1 := Lib.hid hB1
  have E2 := Lib.hid hB2
  have E3 := Lib.hid hB3
  have L0 := Lib.hid hnb
  have L1 := Lib.hid hn1
  have L2 := Lib.hid hn2
  have L3 := Lib.hid hn3
  have HY := Lib.hid hy
  have iy : I64 (y : Int) := by unfold I64; omega
  have IY := Lib.hid iy
  have BA := Lib.hid (show b.length ≤ 140737488355000 by omega)
  have BB := Lib.hid (show b.length ≤ 1000000000000 by omega)
  have BD := Lib.hid (show b.length + s.size ≤ 1000000000000 by omega)
  have BE := Lib.hid (show b.length + 10 * (l.length + 1) ≤ 1000000000000 by omega)
  have bf : (encL l).length ≤ 1000000000000 := by
    have h : (b ++ encL l).length ≤ 1000000000 := by rw [hB3, hn3]; exact b3.2
    rw [List.length_append] at h
    omega
  have BF := Lib.hid bf
  clear bf
  have K4 := Lib.hid (show nb + (cellsU twelve).length = n0 by rw [cellsU_len, b0]; rfl)
  have K5 := Lib.hid (show n0 ≤ maxLen by unfold maxLen; omega)
  have K6 := Lib.hid (show n0 * 1 ≤ 140737488355328 by omega)
  have p0 := Lib.hid (show 0 < n0 by omega)
  have p1 := Lib.hid (show 0 < n1 by omega)
  have p2 := Lib.hid (show 0 < n2 by omega)
  have p3 := Lib.hid (show 0 < n3 by omega)
  have P0 := Lib.hid b0
  have P1 := Lib.hid b1
  have P2 := Lib.hid b2
  have P3 := Lib.hid b3
  have PB := Lib.hid (show nb ≤ 10000000 by omega)
  obtain ⟨AL, cl, rfl, _, _⟩ := cel_ints HL.out
  obtain ⟨AR, cr, rfl, hcr1, hcr2⟩ := cel_form HB.out
  rw [cellsU_len, hnb] at HB ⊢
  rw [hy] at HL ⊢
  obtain ⟨k0, k1, k2⟩ := box3 w (.int .i64 N) (.string s) (.slice AL y cl) 42
  have g0 : Own w (w.alloc (.cells #[.int .i64 N, .string s, .slice AL y cl] 42)) := (Own.refl w).alloc _
  have HV := Lib.hid (HL.out.own g0)
  have HRR := Lib.hid (HB.out.own g0)
  clear hB0 hB1 hB2 hB3 hnb hn0 hn1 hn2 hn3 b0 b1 b2 b3 hn hi hsl iy hsd hy HL HB hb hcr1 hcr2
  go_enter Try.func10, Try.ntmps10
  go_upto_region 1 with (fail)
  generalize w.alloc (.cells #[.int .i64 N, .string s, .slice AL y cl] 42) = W0 at *
  generalize w.heap.size = Q at *
  go_upto_region 2 with (first
    | (go_at_call 15; with_reducible refine (own_f b _ nb _ HRR BA.out L0.out).mono ?_; rintro e w6 ⟨A6, c6, rfl, hown6, q8⟩; have HR6 := Lib.hid (World.ownsRow.alloc hown6 (.cells #[.int .u8 1, .int .u8 2, .int .u8 3, .int .u8 4, .int .u8 5, .int .u8 6, .int .u8 7, .int .u8 8, .int .u8 9, .int .u8 10, .int .u8 11, .int .u8 12] 5)); have HTW := lit_u8 w6 5 twelve #[.int .u8 1, .int .u8 2, .int .u8 3, .int .u8 4, .int .u8 5, .int .u8 6, .int .u8 7, .int .u8 8, .int .u8 9, .int .u8 10, .int .u8 11, .int .u8 12] 12 rfl rfl (by decide); have q9 := q8.alloc (.cells #[.int .u8 1, .int .u8 2, .int .u8 3, .int .u8 4, .int .u8 5, .int .u8 6, .int .u8 7, .int .u8 8, .int .u8 9, .int .u8 10, .int .u8 11, .int .u8 12] 5); have HSZ := Lib.hid q9.size; clear hown6)
    | (at_builtin; refine wpList_append_r (by go_simp) _ _ 22 rfl W0.heap.size 5 i0 (.int .u8 0) 1 Try.underlying22 HI0.out HZ0.out HZ1.out HZ2.out rfl _ nb (cellsU b) rfl HR6.out _ (cellsU twelve) rfl HTW.out (cellsU_one _) n0 K4.out K5.out K6.out HSZ.out ?_; intro v8 w8 hown8 hgr8 hsz8; have q10 := hgr8 _ q9 (Nat.le_refl _); obtain ⟨g8, o8, c8, rfl⟩ := row_addr hown8 p0.out; have HR8 := Lib.hid hown8; clear hown8 hgr8 hsz8))
  have HC0 := Lib.hid (show Cel w8 (.slice (some ⟨g8, o8, none⟩) n0 c8) (cellsU B0) by rw [← E0.out, cellsU_app]; exact cel_of_row HR8.out)
  obtain ⟨m8, m8'⟩ := cel_cap HC0.out
  have nbc : nb ≤ c8 := by have := P0.out; omega
  have HSH := Lib.hid (show Cel w8 (.slice (some ⟨g8, o8, none⟩) nb c8) (cellsU b) by
    have h := cel_take (k := nb) HC0.out (by have := P0.out; omega)
    rw [← E0.out, List.take_append_of_le_length (by rw [L0.out]; exact Nat.le_refl _), List.take_of_length_le (by rw [L0.out]; exact Nat.le_refl _)] at h
    exact h)
  have q11 := g0.trans q10
  replace k0 := q10.cell k0
  replace k1 := q10.cell k1
  replace k2 := q10.cell k2
  replace HV := Lib.hid (HV.out.own q10)
  replace HRR := Lib.hid (HRR.out.own q10)
  clear HR6 HTW HSZ HR8 q8 q9 q10 g0
  have HSH0 := Lib.hid HSH.out
  have HRR0 := Lib.hid HRR.out
  have HV0 := Lib.hid HV.out
  have k20 := k2
  go_upto_region 3 with (fail)
  go_cut [7, 8, 9] (fun x7 x8 x9 wx => ∃ g1 c1 g2 c2 g3 c3, x7 = .slice (some ⟨g1, 0, none⟩) n1 c1 ∧ x8 = .slice (some ⟨g2, 0, none⟩) n2 c2 ∧ x9 = .slice (some ⟨g3, 0, none⟩) n3 c3 ∧ Tri wx w8.heap.size g1 c1 n1 g2 c2 n2 g3 c3 n3 (cellsU B1) (cellsU B2) (cellsU B3) ∧ Own w8 wx)
  case first =>
    have f1 := (Own.refl w8).drew
    go_region_held3 (fun w' => w'.cell? ⟨Q, 0, none⟩ = some (.int .i64 N) ∧ w'.cell? ⟨Q, 1, none⟩ = some (.string s) ∧ w'.cell? ⟨Q, 2, none⟩ = some (.slice AL y cl) ∧ Own w8 w') (first | go_keep | (exact ⟨f1.cell k0, f1.cell k1, f1.cell k2, f1⟩))
      (first
      | (go_at_call 14; have OO := (show Own w8 _ by with_reducible assumption); have HX := Lib.hid (HSH.out.own OO); with_reducible refine (put_m C b _ N B1 n1 w8.heap.size _ HX HN.out BB.out E1.out L1.out p1.out OO.size).mono ?_; rintro e w3 ⟨g1, c1, rfl, hown, ha, hb, q3⟩; obtain ⟨k0, k1, k2, k3⟩ := held3 q3 (by with_reducible assumption); (try have D12 := Lib.hid (show g1 ≠ g2 by have := G2.out; omega)); (try have D13 := Lib.hid (show g1 ≠ g3 by have := G3.out; omega)); (try replace R2 := Lib.hid (row_own R2.out q3)); (try replace R3 := Lib.hid (row_own R3.out q3)); (try replace G2 := Lib.hid (Nat.lt_of_lt_of_le G2.out q3.size)); (try replace G3 := Lib.hid (Nat.lt_of_lt_of_le G3.out q3.size)); have R1 := Lib.hid hown; have G1 := Lib.hid hb; clear hown ha hb q3 OO HX)
      | (go_at_call 20; have OO := (show Own w8 _ by with_reducible assumption); have HX := Lib.hid (HSH.out.own OO); with_reducible refine (puttext_m C b _ s B2 n2 w8.heap.size _ HX BD.out E2.out L2.out p2.out OO.size).mono ?_; rintro e w3 ⟨g2, c2, rfl, hown, ha, hb, q3⟩; obtain ⟨k0, k1, k2, k3⟩ := held3 q3 (by with_reducible assumption); (try have D12 := Lib.hid (show g1 ≠ g2 by have := G1.out; omega)); (try have D23 := Lib.hid (show g2 ≠ g3 by have := G3.out; omega)); (try replace R1 := Lib.hid (row_own R1.out q3)); (try replace R3 := Lib.hid (row_own R3.out q3)); (try replace G1 := Lib.hid (Nat.lt_of_lt_of_le G1.out q3.size)); (try replace G3 := Lib.hid (Nat.lt_of_lt_of_le G3.out q3.size)); have R2 := Lib.hid hown; have G2 := Lib.hid hb; clear hown ha hb q3 OO HX)
      | (go_at_call 25; have OO := (show Own w8 _ by with_reducible assumption); have HX := Lib.hid (HSH.out.own OO); have HVX := Lib.hid (HV.out.own OO); with_reducible refine (putlist_m C b l _ _ B3 n3 w8.heap.size _ HX HVX HI.out BE.out E3.out L3.out p3.out OO.size).mono ?_; rintro e w3 ⟨g3, c3, rfl, hown, ha, hb, q3⟩; obtain ⟨k0, k1, k2, k3⟩ := held3 q3 (by with_reducible assumption); (try have D13 := Lib.hid (show g1 ≠ g3 by have := G1.out; omega)); (try have D23 := Lib.hid (show g2 ≠ g3 by have := G2.out; omega)); (try replace R1 := Lib.hid (row_own R1.out q3)); (try replace R2 := Lib.hid (row_own R2.out q3)); (try replace G1 := Lib.hid (Nat.lt_of_lt_of_le G1.out q3.size)); (try replace G2 := Lib.hid (Nat.lt_of_lt_of_le G2.out q3.size)); have R3 := Lib.hid hown; have G3 := Lib.hid hb; clear hown ha hb q3 OO HX HVX))
    all_goals (go_wp2; go_meet; exact ⟨g1, c1, g2, c2, g3, c3, rfl, rfl, rfl, ⟨R1.out, R2.out, R3.out, D12.out, D13.out, D23.out⟩, k3⟩)
  case rest =>
    obtain ⟨g1, c1, g2, c2, g3, c3, rfl, rfl, rfl, htri, q1⟩ := hcut
    have HTRI := Lib.hid htri
    have hg := (htri.r1.lt g1 rfl).1
    have hg2 := (htri.r2.lt g2 rfl).1
    have hg3 := (htri.r3.lt g3 rfl).1
    have D1 := Lib.hid (fun i (h : i < 12) => q1.cell (cel_at HC0.out (D0.out i h)))
    clear htri k0 k1 D0
    go_wp2
    go_loop [10] (fun vi => ∃ i : Nat, vi = .int .i64 (i : Int) ∧ i ≤ 12) (fun vi => 12 - (intOf vi).toNat)
    case atStart => exact ⟨0, rfl, Nat.zero_le _⟩
    case round =>
      obtain ⟨i, rfl, hi⟩ := hrel
      by_cases hlt : i < 12
      · obtain ⟨j, hj⟩ : ∃ j, nb + i = j := ⟨_, rfl⟩
        have e0 := D1.out i hlt
        rw [hj] at e0
        have hnb := PB.out
        have hn0 := P0.out
        have i1 : IntKind.i64.wrap ((nb : Int) + i) = (j : Int) := (IntWalk.i64_in _ (by omega)).trans (by omega)
        have i3 : IntKind.u8.wrap ((i : Int) + 1) = (i : Int) + 1 := u8_in (by omega)
        have hj0 : (j : Int) < n0 := by omega
        have hi12 : (i : Int) < 12 := by omega
        clear hj hnb hn0
        go_wp2
        go_round
        case rel => exact ⟨i + 1, by go_num, hlt⟩
        case measure => simp [intOf]; omega
      · obtain rfl : i = 12 := by omega
        clear D1
        have t1 : ¬ (n1 : Int) < nb := by have := P1.out; omega
        have t2 : ¬ (n2 : Int) < nb := by have := P2.out; omega
        have t3 : ¬ (n3 : Int) < nb := by have := P3.out; omega
        go_upto_region 12 with (fail)
        clear t1 t2 t3
        go_loopw [11] (fun vi wr => ∃ (k : Nat) (X1 X2 X3 : Bs), vi = .int .i64 (k : Int) ∧ k ≤ nb ∧ X1.length = n1 ∧ X2.length = n2 ∧ X3.length = n3 ∧ X3.drop nb = encL l ∧ Tri wr w8.heap.size g1 c1 n1 g2 c2 n2 g3 c3 n3 (cellsU X1) (cellsU X2) (cellsU X3) ∧ Own w8 wr) (fun vi _ => nb - (intOf vi).toNat)
        case atStart => exact ⟨0, B1, B2, B3, rfl, Nat.zero_le _, L1.out, L2.out, L3.out, by rw [← E3.out, List.drop_append_of_le_length (by rw [L0.out]; exact Nat.le_refl _), List.drop_of_length_le (by rw [L0.out]; exact Nat.le_refl _), List.nil_append], HTRI.out, q1⟩
        case round =>
          obtain ⟨k, X1, X2, X3, rfl, hk, hx1, hx2, hx3, hdr, htri, q⟩ := hrel
          have HT := Lib.hid htri
          have HX1 := Lib.hid hx1
          have HX2 := Lib.hid hx2
          have HX3 := Lib.hid hx3
          have HDR := Lib.hid hdr
          clear hdr
          by_cases hlt : k < nb
          · have h1 := P1.out
            have h2 := P2.out
            have h3 := P3.out
            have e1 : wr.cell? ⟨g1, k, none⟩ = some (.int .u8 (X1[k].toNat : Int)) := by rw [World.ownsRow.cellAt htri.r1 k (by omega), cellsU_at (by omega)]
            have e2 : wr.cell? ⟨g2, k, none⟩ = some (.int .u8 (X2[k].toNat : Int)) := by rw [World.ownsRow.cellAt htri.r2 k (by omega), cellsU_at (by omega)]
            have e3 : wr.cell? ⟨g3, k, none⟩ = some (.int .u8 (X3[k].toNat : Int)) := by rw [World.ownsRow.cellAt htri.r3 k (by omega), cellsU_at (by omega)]
            have z1 := World.ownsRow.frozenAt htri.r1 k
            have z2 := World.ownsRow.frozenAt htri.r2 k
            have z3 := World.ownsRow.frozenAt htri.r3 k
            have bl1 : g1 < wr.heap.size := block_lt_of_cell e1
            have bl2 : g2 < wr.heap.size := block_lt_of_cell e2
            have bl3 : g3 < wr.heap.size := block_lt_of_cell e3
            generalize X1[k].toNat = a1 at e1
            generalize X2[k].toNat = a2 at e2
            generalize X3[k].toNat = a3 at e3
            obtain ⟨y1, s1, y1b⟩ := wrap_u8 a1 1
            obtain ⟨y2, s2, y2b⟩ := wrap_u8 a2 2
            obtain ⟨y3, s3, y3b⟩ := wrap_u8 a3 3
            rw [show ((1 : Nat) : Int) = 1 from rfl] at s1
            rw [show ((2 : Nat) : Int) = 2 from rfl] at s2
            rw [show ((3 : Nat) : Int) = 3 from rfl] at s3
            have d12 : ¬ g1 = g2 := htri.d12
            have d13 : ¬ g1 = g3 := htri.d13
            have d23 : ¬ g2 = g3 := htri.d23
            have d21 : ¬ g2 = g1 := fun e => d12 e.symm
            have d31 : ¬ g3 = g1 := fun e => d13 e.symm
            have d32 : ¬ g3 = g2 := fun e => d23 e.symm
            have j0 : (k : Int) < nb := by omega
            have j1 : (k : Int) < n1 := by omega
            have j2 : (k : Int) < n2 := by omega
            have j3 : (k : Int) < n3 := by omega
            clear hx1 hx2 hx3 htri h1 h2 h3
            go_upto_region 14 with (fail)
            go_region
            go_wp2
            go_roundw
            case rel =>
              refine ⟨k + 1, X1.set k (byteN y1), X2.set k (byteN y2), X3.set k (byteN y3), by go_num, hlt, by rw [List.length_set]; exact HX1.out, by rw [List.length_set]; exact HX2.out, by rw [List.length_set]; exact HX3.out, by rw [List.drop_set_of_lt hlt]; exact HDR.out, ?_, (((q.setCell hg _).setCell hg2 _).setCell hg3 _).drew⟩
              rw [← set_u8 X1 k y1 y1b, ← set_u8 X2 k y2 y2b, ← set_u8 X3 k y3 y3b]
              exact HT.out.set1.set2.set3.own (Own.refl _).drew
            case measure => simp [intOf]; omega
          · obtain rfl : k = nb := by omega
            have h3 := P3.out
            have HC3 := cel_of_row htri.r3
            obtain ⟨c3a, c3b⟩ := cel_cap HC3
            have HCD := Lib.hid (show Cel wr (.slice (some ⟨g3, k, none⟩) (n3 - k) (c3 - k)) (cellsU (encL l)) by
              have h := cel_drop HC3 (Nat.le_of_lt h3.1)
              rwa [Nat.zero_add, HDR.out] at h)
            have x1 : k ≤ n3 := Nat.le_of_lt h3.1
            have x2 : ¬ c3 = k := by omega
            have x3 : k ≤ c3 := by omega
            have R3 := Lib.hid htri.r3
            have hlt3 := (htri.r3.lt g3 rfl).2
            have HLT3 := Lib.hid hlt3
            obtain ⟨m3, hm3⟩ : ∃ m, (encL l).length = m := ⟨_, rfl⟩
            rw [hm3] at F3
            clear htri HTRI HC3 h3 hx1 hx2 hx3 HX1 HX2 HDR HT hlt3 c3a c3b hm3
            replace k2 := q.cell k2
            replace HV := Lib.hid (HV.out.own q)
            replace HRR := Lib.hid (HRR.out.own q)
            replace HSH := Lib.hid (HSH.out.own q)
            generalize wr = wz at *
            go_upto_region 15 with (fail)
            go_region_held3 (fun w' => w'.cell? ⟨Q, 2, none⟩ = some (.slice AL y cl) ∧ Own wz w') (first | (exact ⟨(Own.refl wz).drew.cell k2, (Own.refl wz).drew⟩) | (exact ⟨k5, q5⟩))
              ((go_at_call 22; have HX := Lib.hid (HCD.out.own (Own.refl wz).drew); with_reducible refine (takelist_row D (encL l) l y wz.heap.size _ y 0 m3 _ HX BF.out IY.out F3 HY.out (Own.refl wz).drew.size).mono ?_; rintro e w12 ⟨A9, c9, rfl, hc9, q3⟩; have q5 := (Own.refl wz).drew.trans q3; have k5 := q5.cell k2; clear HX q3))
            replace HV := Lib.hid (HV.out.own q5)
            replace HRR := Lib.hid (HRR.out.own q5)
            replace HSH := Lib.hid (HSH.out.own q5)
            replace R3 := Lib.hid (row_own R3.out q5)
            have HR9 := Lib.hid hc9
            replace q := q.trans q5
            clear hc9 k5 q5 HCD
            go_upto_region 17 with (fail)
            go_loopw [15] (fun vi wr => ∃ (j : Nat) (X : Bs), vi = .int .i64 (j : Int) ∧ k ≤ j ∧ j ≤ n3 ∧ X.length = n3 ∧ wr.ownsRow w8.heap.size 5 1 (.slice (some ⟨g3, 0, none⟩) n3 c3) n3 (cellsU X) ∧ wr.ownsRow wz.heap.size 3 1 (.slice A9 y c9) y (cellsI l) ∧ Own w8 wr) (fun vi _ => n3 - (intOf vi).toNat)
            case atStart => exact ⟨k, _, rfl, Nat.le_refl _, x1, by have := R3.out.1; rw [cellsU_len] at this; omega, R3.out, HR9.out, q⟩
            case round =>
              obtain ⟨j, X, rfl, hj1, hj2, hx, hrow, hrow9, qr⟩ := hrel
              have HROW := Lib.hid hrow
              have HROW9 := Lib.hid hrow9
              have HX := Lib.hid hx
              by_cases hlt : j < n3
              · have e1 : wr.cell? ⟨g3, j, none⟩ = some (.int .u8 (X[j].toNat : Int)) := by rw [World.ownsRow.cellAt hrow j (by omega), cellsU_at (by omega)]
                have z1 := World.ownsRow.frozenAt hrow j
                have bl1 : g3 < wr.heap.size := block_lt_of_cell e1
                generalize X[j].toNat = a1 at e1
                have j0 : (j : Int) < n3 := by omega
                have n3b := P3.out.2
                clear hx hrow hrow9
                go_wp2
                go_roundw
                case rel =>
                  refine ⟨j + 1, X.set j (byteN 0), by go_num, by omega, hlt, by rw [List.length_set]; exact HX.out, ?_, row_set_below HROW9.out HLT3.out _, qr.setCell hg3 _⟩
                  rw [← set_u8 X j 0 (by decide)]
                  exact (HROW.out.stored j _).1
                case measure => simp [intOf]; omega
              · obtain rfl : j = n3 := by omega
                have HC9 := Lib.hid (cel_of_row hrow9)
                have HB1 := Lib.hid (HSH0.out.own qr)
                have HB2 := Lib.hid (HRR0.out.own qr)
                have HV1 := Lib.hid (HV0.out.own qr)
                have k9 := qr.cell k20
                clear hx hrow hrow9 HROW HROW9 HX
                go_wp2_with (first
                  | (go_at_call 13; with_reducible refine (rbytes_yes b _ _ _ HB1 HB2).mono ?_; rintro e w16 ⟨rfl, rfl⟩)
                  | (go_at_call 24; with_reducible refine (rints_yes l _ _ _ HC9 HV1).mono ?_; rintro e w13 ⟨rfl, d13, hd13⟩; have q13 : Own wr w13 := (by rw [hd13]; exact (Own.refl _).drewN d13); clear hd13)
                  | (go_at_call 17; with_reducible refine (awake_at C D _).mono ?_; rintro e w14 ⟨rfl, q14⟩))
                go_ret
                exact ⟨rfl, q11.trans (qr.trans (q13.trans q14))⟩
end Go.Proofs.Yteaidfocbhadjaa.WirW
