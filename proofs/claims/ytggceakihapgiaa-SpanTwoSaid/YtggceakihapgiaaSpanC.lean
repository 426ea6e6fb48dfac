/-
  Walks of ends and Sets of the specification of package span. Condition: the spans are valid, and at most 300.
-/
import Derived.Test.YtggceakihapgiaaSpanB
namespace Go.Proofs.Ytggceakihapgiaa.SpaW
open Go.ChangeShapes Go.WideShapes Go.ChangeAt Go.RowKit
open PairW SpaP

/-- 'append' to a row that the call owns, in a plain region. -/
theorem wpList_append_row_any {P : Program} {ops : Array Oper} {rest : List Oper} {o : Oper} {a : Act} {Q : Exit → Act → World → Prop} (w : World) (hgd : o.guard = none) (s x : Operand) (t : TypeId)
    (ho : o.op = .call { callee := .builtin .append, args := #[s, x], argTypes := #[t, t] }) (base : Nat) (e : TypeId) (i : TypeInfo) (z : Value) (size bytes : Nat) (ht : P.underlying t = some (.slice e)) (hi : P.info? e = some i) (hz : i.zero = some z)
    (hsize : i.size = size) (hby : i.bytes = bytes) (hzs : z.cells.size = size) (hsz : 0 < size) (v : Value) (n : Nat) (xs : List Value) (hs : a.eval s = v) (hown : w.ownsRow base e size v n xs)
    (ao : Option Addr) (m c : Nat) (news : List Value) (hx : a.eval x = .slice ao m c) (hl : news.length = m * size) (hao : 0 < m → ∃ ad, ao = some ad ∧ ∀ j u, news[j]? = some u → w.cell? (ad.add j) = some u) (h1 : ∀ u ∈ news, u.oneCell' = true)
    (h63 : n + m ≤ maxLen) (hbytes : (n + m) * bytes ≤ 140737488355328) (hbase : base ≤ w.heap.size)
    (h : ∀ v' w', w'.ownsRow base e size v' (n + m) (xs ++ news) → w.grownBy w' v.ownBlock → (v'.ownBlock = v.ownBlock ∨ v'.ownBlock = some w.heap.size) → wpList P ops Q rest (a.put o.dst v') w') :
    wpList P ops Q (o :: rest) a w := by
  refine wpList_plain hgd fun K hK => ?_
  obtain ⟨v', w', hr, h2, h3, h4⟩ := run_append_row_any (P := P) w base t o.type e i z size bytes ht hi hz hsize hby hzs hsz v n xs hown ao m c news hl hao h1 h63 hbytes hbase
  unfold Oper.wp execOp
  simp only [ho, resolve, invoke, builtin, Sem.run_bind, Sem.run_pure, Result.andThen_ok, List.map_toArray, List.map_cons, List.map_nil, hs, hx, hr]
  exact hK _ _ (h v' w' h2 h3 h4)
theorem cellsP_app (l m : List Sp) : cellsP (l ++ m) = cellsP l ++ cellsP m := by unfold cellsP; rw [List.flatMap_append]
/-- A list of spans as a source of an append. -/
theorem pts_src {w : World} {sv : Value} {l : List Sp} (h : Pts w sv l) : ∃ (A : Option Addr) (c : Nat), sv = .slice A l.length c ∧ (0 < l.length → ∃ ad, A = some ad ∧ ∀ j u, (cellsP l)[j]? = some u → w.cell? (ad.add j) = some u) := by
  obtain ⟨A, c, h1, h2, _, h3⟩ := h
  refine ⟨A, c, h1, fun h0 => ?_⟩
  obtain ⟨b, off, e, _⟩ := h3 h0
  exact ⟨_, e, pts_row_cells h3 h2 _ e⟩
theorem endsTo_take {l : List Sp} {k : Nat} (h : k < l.length) (p : List Int) : endsTo p (l.take (k + 1)) = insL (at' l k).2 (insL (at' l k).1 (endsTo p (l.take k))) := by
  rw [take_at h, endsTo_append]
  rfl
set_option maxRecDepth 100000 in
set_option maxHeartbeats 8000000 in
theorem rends_l (a b l : List Sp) (sa sb : Value) (w : World) (HLL : Hid (a ++ b = l)) (HA : Hid (Pts w sa a)) (HB : Hid (Pts w sb b)) (hn : a.length + b.length ≤ 300) (HOK : Hid (∀ s ∈ l, okS s = true)) :
    Calls Try.prog 43 #[sa, sb] w fun e w' => ∃ s', e = .returned s' ∧ Ints w' s' (endsTo [] l) ∧ Own w w' := by
  obtain ⟨i0, hi, hz0, hz1, hz2⟩ := info_parts (show (Try.prog.info? 36).map (fun i => (i.zero, i.size, i.bytes)) = some (some (.agg #[.int .i64 0, .int .i64 0]), 2, 16) by kernel_rfl)
  have HI := Lib.hid hi
  have HZ0 := Lib.hid hz0
  have HZ1 := Lib.hid hz1
  have HZ2 := Lib.hid hz2
  clear hi hz0 hz1 hz2
  obtain ⟨Aa, ca, rfl, hsa⟩ := pts_src HA.out
  obtain ⟨Ab, cb, rfl, hsb⟩ := pts_src HB.out
  clear hsa hsb
  have HLA := Lib.hid (cellsP_len a)
  have HLB := Lib.hid (cellsP_len b)
  go_enter Try.func43, Try.ntmps43
  go_upto_region 2 with (fail)
  have g0 : Own w (w.alloc (.cells #[] 3)) := (Own.refl w).alloc _
  have s0 : Ints (w.alloc (.cells #[] 3)) (.slice (some ⟨w.heap.size, 0, none⟩) 0 0) [] := ⟨_, 0, rfl, Nat.le_refl _, Nat.zero_le _, fun h => absurd h (by simp)⟩
  generalize w.alloc (.cells #[] 3) = W1 at *
  have R0 : (W1.alloc (.cells #[] 36)).ownsRow W1.heap.size 36 2 (.slice (some ⟨W1.heap.size, 0, none⟩) 0 0) 0 [] := World.ownsRow_made W1 #[] 0 (Nat.le_refl _) (Nat.zero_le _) rfl
  have q0 : Own W1 (W1.alloc (.cells #[] 36)) := (Own.refl W1).alloc _
  obtain ⟨_, _, ea, hsa⟩ := pts_src (HA.out.own (g0.trans q0))
  obtain ⟨rfl, rfl⟩ : _ = Aa ∧ _ = ca := by injection ea with e1 e2 e3; exact ⟨e1.symm, e3.symm⟩
  clear ea
  have HSA := Lib.hid hsa
  clear hsa
  go_wp2_with (at_builtin; refine wpList_append_row_any _ rfl _ _ 22 rfl W1.heap.size 36 i0 (.agg #[.int .i64 0, .int .i64 0]) 2 16 Try.underlying22 HI.out HZ0.out HZ1.out HZ2.out rfl (by decide) _ 0 [] rfl R0 _ a.length _ (cellsP a) rfl HLA.out HSA.out (cellsP_one a) (by unfold maxLen; omega) (by omega) (by simp) ?_)
  intro v2 w2 hown hgr _
  have g1 : Own W1 w2 := q0.grown hgr (by intro i hi; simp [Value.ownBlock] at hi; omega)
  clear R0 q0 hgr HSA
  obtain ⟨_, _, eb, hsb⟩ := pts_src (HB.out.own (g0.trans g1))
  obtain ⟨rfl, rfl⟩ : _ = Ab ∧ _ = cb := by injection eb with e1 e2 e3; exact ⟨e1.symm, e3.symm⟩
  clear eb
  have HSB := Lib.hid hsb
  have R1 := Lib.hid hown
  clear hsb hown
  go_wp2_with (at_builtin; refine wpList_append_row_any _ rfl _ _ 22 rfl W1.heap.size 36 i0 (.agg #[.int .i64 0, .int .i64 0]) 2 16 Try.underlying22 HI.out HZ0.out HZ1.out HZ2.out rfl (by decide) _ a.length (cellsP a) rfl R1.out _ b.length _ (cellsP b) rfl HLB.out HSB.out (cellsP_one b) (by unfold maxLen; omega) (by omega) g1.size ?_)
  intro v3 w3 hown hgr hat
  have g2 : Own W1 w3 := g1.grown hgr (by intro i hi; exact (R1.out.lt i hi).1)
  have hp : Pts w3 v3 l := pts_of_row (base := W1.heap.size) (e := 36) (by rw [← HLL.out, cellsP_app, List.length_append]; exact hown)
  have s1 := s0.own g2
  have g3 := g0.trans g2
  clear R1 HSB hgr hat hown g1 g2 s0 g0 HLA HLB HA HB HI HZ0 HZ1 HZ2
  have hnl : l.length ≤ 300 := by rw [← HLL.out]; simp; omega
  clear hn
  obtain ⟨A, cap, rfl, hc1, hc2, hop⟩ := hp.open
  unfold maxLen at hc2
  have HC := Lib.hid hop
  have HST := Lib.hid (fun k (h : k < l.length) => endsTo_take h [])
  have HASC := Lib.hid (fun k => endsTo_asc (b := -1) (l := l.take k) (p := []) trivial (fun s hs => by have := (okS_iff s).1 (HOK.out s (List.mem_of_mem_take hs)); omega))
  have HLN := Lib.hid (fun k => endsTo_len (l.take k) [])
  have HOA := Lib.hid (fun k (h : k < l.length) => (okS_iff _).1 (HOK.out _ (at_mem h)))
  have HEN := Lib.hid (show endsTo [] (l.take l.length) = endsTo [] l by rw [List.take_length])
  clear hop hp HOK
  obtain ⟨n, hn⟩ : ∃ n, l.length = n := ⟨_, rfl⟩
  rw [hn] at hc1 HC HST HOA HEN hnl
  rw [hn]
  have HN := Lib.hid hn
  clear hn
  go_wp2
  go_loopw [5, 7] (fun o i wr => ∃ k : Nat, i = .int .i64 k ∧ k ≤ n ∧ Own w3 wr ∧ Ints wr o (endsTo [] (l.take k))) (fun _ i _ => n - (intOf i).toNat)
  case atStart => exact ⟨0, rfl, Nat.zero_le _, Own.refl w3, s1⟩
  case round =>
    clear s1
    obtain ⟨k, rfl, hk, q0, hints⟩ := hrel
    have HIN := Lib.hid hints
    clear hints
    by_cases hlt : k < n
    · obtain ⟨bb, off, rfl, hcell⟩ := HC.out (by omega)
      have e0 := q0.cell (hcell k hlt).1
      have e1 := q0.cell (hcell k hlt).2
      clear hcell
      have hst := HST.out k hlt
      have hoa := HOA.out k hlt
      obtain ⟨⟨x, y⟩, hp⟩ : ∃ p, at' l k = p := ⟨_, rfl⟩
      rw [hp] at e0 e1 hst hoa
      simp only at e0 e1 hst hoa
      have hl1 := HLN.out k
      have hl2 : (l.take k).length ≤ 300 := by rw [List.length_take, HN.out]; omega
      have HA1 := Lib.hid (HASC.out k)
      have HA2 := Lib.hid (insL_asc x (show (-1 : Int) < x by omega) HA1.out)
      have HS2 := Lib.hid hst
      have hl3 := insL_len x (endsTo [] (l.take k))
      obtain ⟨p, hpp⟩ : ∃ p, endsTo [] (l.take k) = p := ⟨_, rfl⟩
      rw [hpp] at HIN HA1 HA2 HS2 hl1 hl3
      clear hp hst hpp
      simp only [List.length_nil, Nat.zero_add] at hl1
      have f0 := Own.refl wr
      have f1 : Own wr wr.drew := f0.drew
      have HI1 := Lib.hid (HIN.out.own f1)
      have h5 : p.length ≤ 1000000 := by omega
      have h6 : (insL x p).length ≤ 1000000 := by omega
      clear HLN HASC HST HOA HEN HIN hl1 hl2 hl3
      go_upto_region 6 with (fail)
      go_region_held3 (fun w' => w'.cell? ⟨bb, off + k * 2, none⟩ = some (.int .i64 x) ∧ w'.cell? ⟨bb, off + k * 2 + 1, none⟩ = some (.int .i64 y) ∧ Own wr w') ((refine ⟨Own.cell (w := wr) ?_ e0, Own.cell (w := wr) ?_ e1, ?_⟩ <;> (repeat (first | (with_reducible assumption) | (exact Own.refl _) | (apply Own.alloc) | (apply Own.drew)))))
        ((go_at_call 48; (first | (with_reducible refine (rinsert_at x (-1) p _ _ HI1 h5 HA1).mono ?_; rintro e wa ⟨s4, rfl, hi4, hg4⟩; replace hg4 : Own wr wa := f1.trans hg4) | (with_reducible refine (rinsert_at y (-1) (insL x p) _ _ (Lib.hid hi4) h6 HA2).mono ?_; rintro e wb ⟨s5, rfl, hi5, hg5⟩; replace hg5 : Own wr wb := Own.trans hg4 hg5))))
      go_wp2
      go_roundw
      case rel => exact ⟨k + 1, by go_num, hlt, q0.trans hg5, by rw [HS2.out]; exact hi5⟩
      case measure => simp [intOf]; omega
    · obtain rfl : k = n := by omega
      rw [HEN.out] at HIN
      go_wp2
      go_ret
      exact ⟨_, rfl, HIN.out, g3.trans q0⟩
theorem rends_at (a b : List Sp) (sa sb : Value) (w : World) (HA : Hid (Pts w sa a)) (HB : Hid (Pts w sb b)) (hn : a.length + b.length ≤ 300) (HOK : Hid (∀ s ∈ a ++ b, okS s = true)) :
    Calls Try.prog 43 #[sa, sb] w fun e w' => ∃ s', e = .returned s' ∧ Ints w' s' (endsTo [] (a ++ b)) ∧ Own w w' := rends_l a b _ sa sb w (Lib.hid rfl) HA HB hn HOK
end Go.Proofs.Ytggceakihapgiaa.SpaW
