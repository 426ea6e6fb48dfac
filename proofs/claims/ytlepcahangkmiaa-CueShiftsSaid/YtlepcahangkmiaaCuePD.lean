/-
  Walk of the program's Fit of package cue: a range over a function. Condition: none.
-/
import Derived.Test.YtlepcahangkmiaaCuePC
import Derived.Laws.ResultCell
namespace Go.Proofs.Ytlepcahangkmiaa.CueW
open Go.ChangeShapes Go.WideShapes Go.ChangeAt Go.RowKit
open PairW CelW RanW CueP
attribute [local go_sem] Oper.semAt_some
theorem results_cells2 {fn : Func} {p q : Tmp} {t u : TypeId} (h : fn.results = #[.cell p t, .cell q u]) (tmps : Array Value) (P : Program) (w : World) :
    (results fn tmps).run P w = ((asAddr (tmps.getD p undef)).run P w).andThen fun a w₁ => ((loadVar t a).run P w₁).andThen fun v w₂ => ((asAddr (tmps.getD q undef)).run P w₂).andThen fun b w₃ => ((loadVar u b).run P w₃).andThen fun x w₄ => .ok (.tuple #[v, x]) w₄ := by
  simp only [results, h]
  simp [Sem.run_bind, Result.andThen]
theorem fit_results {tmps : Array Value} {w : World} {B C : Nat} {A : Option Addr} {n c : Nat} {f : Int} (hp : tmps.getD 2 undef = .pointer (some ⟨B, 0, none⟩)) (hq : tmps.getD 3 undef = .pointer (some ⟨C, 0, none⟩)) (h0 : w.cell? ⟨B, 0, none⟩ = some (.slice A n c)) (h1 : w.cell? ⟨C, 0, none⟩ = some (.int .i64 f)) :
    (results Try.f13 tmps).run Try.prog w = .ok (.tuple #[.slice A n c, .int .i64 f]) w := by
  rw [results_cells2 (p := 2) (q := 3) rfl, hp, hq]
  go_simp
theorem StaW_set (w : World) (b : Nat) (u : Value) {k : Nat} (h : k ≠ b) : (w.setCell ⟨b, 0, none⟩ u).heap[k]? = w.heap[k]? := by
  unfold World.setCell
  simp only [Array.getElem?_modify]
  rw [if_neg (fun e => h e.symm)]
theorem keeps_own (B : Nat) {W W' : World} (q : PairW.Own W W') : KeepsFrom B W W' := ⟨q.size, fun k _ _ hk _ => (q.block k (Array.getElem?_eq_some_iff.1 hk).1).trans hk⟩
/-- An append to a row of cells: what is no cells stays. -/
theorem keeps_row (B : Nat) {W W' : World} {base n size : Nat} {e : TypeId} {v : Value} {xs : List Value} (h : W.ownsRow base e size v n xs) (hg : W.grownBy W' v.ownBlock) : KeepsFrom B W W' := ⟨hg.size, fun k o _ hk ho => by
  have hl := (Array.getElem?_eq_some_iff.1 hk).1
  by_cases hkg : some k = v.ownBlock
  · rcases h.2 with ⟨h1, _⟩ | ⟨g, cap, cur, h1, h2, h3, h4⟩
    · rw [h1] at hkg; cases hkg
    · rw [h1] at hkg
      have e : k = g := by simpa [Value.ownBlock] using hkg
      rw [e, h3] at hk
      injection hk with hk
      rw [← hk] at ho
      cases ho
  · exact (hg.block k hl hkg).trans hk⟩
theorem kw_own {B0 B : Nat} {W W' : World} (q : PairW.Own W W') : Kw B0 B W W' := ⟨fun k _ _ hk => (q.block k (Array.getElem?_eq_some_iff.1 hk).1).trans hk⟩
theorem row_set_any {w : World} {base : Nat} {e : TypeId} {size : Nat} {v : Value} {n : Nat} {xs : List Value} (h : w.ownsRow base e size v n xs) {b : Nat} (hb : b < base) (u : Value) : (w.setCell ⟨b, 0, none⟩ u).ownsRow base e size v n xs := by
  refine ⟨h.1, ?_⟩
  rcases h.2 with h | ⟨g, cap, cur, h1, h2, h3, h4⟩
  · exact .inl h
  · exact .inr ⟨g, cap, cur, h1, h2, by rw [StaW_set w b u (by omega)]; exact h3, h4⟩
theorem pts_src2 {w : World} {A : Option Addr} {n c : Nat} {l : List Pt} (h : Pts w (.slice A n c) l) : 0 < n → ∃ ad, A = some ad ∧ ∀ j u, (cellsP l)[j]? = some u → w.cell? (ad.add j) = some u := by
  obtain ⟨A', c', hv, h2⟩ := RowA.pts_src h
  injection hv with e1 e2 e3
  rw [e1, e2]
  exact h2
/-- 'append' to a row that the call owns, in a plain region inside a fence. -/
theorem wpListIn_append_row_any {F : Fence} {n' : Nat} {P : Program} {ops : Array Oper} {rest : List Oper} {o : Oper} {a : Act} {Q : Exit → Act → World → Prop} (w : World) (hgd : o.guard = none) (s x : Operand) (t : TypeId)
    (ho : o.op = .call { callee := .builtin .append, args := #[s, x], argTypes := #[t, t] }) (base : Nat) (e : TypeId) (i : TypeInfo) (z : Value) (size bytes : Nat) (ht : P.underlying t = some (.slice e)) (hi : P.info? e = some i) (hz : i.zero = some z)
    (hsize : i.size = size) (hby : i.bytes = bytes) (hzs : z.cells.size = size) (hsz : 0 < size) (v : Value) (n : Nat) (xs : List Value) (hs : a.eval s = v) (hown : w.ownsRow base e size v n xs)
    (ao : Option Addr) (m c : Nat) (news : List Value) (hx : a.eval x = .slice ao m c) (hl : news.length = m * size) (hao : 0 < m → ∃ ad, ao = some ad ∧ ∀ j u, news[j]? = some u → w.cell? (ad.add j) = some u) (h1 : ∀ u ∈ news, u.oneCell' = true)
    (h63 : n + m ≤ maxLen) (hbytes : (n + m) * bytes ≤ 140737488355328) (hbase : base ≤ w.heap.size)
    (h : ∀ v' w', w'.ownsRow base e size v' (n + m) (xs ++ news) → w.grownBy w' v.ownBlock → wpListIn F n' P ops Q rest (a.put o.dst v') w') :
    wpListIn F n' P ops Q (o :: rest) a w := by
  refine wpListIn_plain hgd fun K hK => ?_
  obtain ⟨v', w', hr, h2, h3, h4⟩ := RowA.run_append_row_any (P := P) w base t o.type e i z size bytes ht hi hz hsize hby hzs hsz v n xs hown ao m c news hl hao h1 h63 hbytes hbase
  unfold Oper.wpIn
  refine ⟨?_, ?_⟩
  · simp [Oper.about, ho, resolve, Target.leads, Sem.run_pure]
  · rw [Oper.semAt_plain F _ _ (by rw [ho]; intro c hc'; cases hc')]
    simp [execOp, ho, resolve, invoke, builtin, hs, hx, hr, Result.andThen]
    exact hK _ _ (h v' w' h2 h3)
def fw (p : List Way) : List Pt := p.flatMap fun x => bt x.1.1 x.1.2
theorem fw_snoc (p : List Way) (x : Way) : fw (p ++ [x]) = fw p ++ bt x.1.1 x.1.2 := by unfold fw; rw [List.flatMap_append]; simp
theorem fw_len : ∀ p : List Way, (fw p).length ≤ p.length * 2
  | [] => Nat.le_refl _
  | x :: p => by
    have := fw_len p
    have := bt_pos x.1.1 x.1.2
    show (bt x.1.1 x.1.2 ++ fw p).length ≤ (p.length + 1) * 2
    rw [List.length_append]
    omega
theorem fw_wys {l : List Pt} (hc : Cues l) : ∀ {k : Nat}, k < l.length → fw (wys l k) = fs l k
  | 0, _ => rfl
  | k + 1, hk => by rw [wys_succ, fw_snoc, toW_is (good_at hc hk), fw_wys hc (by omega)]; rfl
theorem ok_wys {l : List Pt} (hc : Cues l) {k : Nat} (hk : k < l.length) (h : ∀ x ∈ wys l k, okB x.1.1 x.1.2 = true) : ∀ j, j < k → okB (at' l j) (at' l (j + 1)) = true := fun j hj => by
  have := h (toW (at' l j, at' l (j + 1))) (by unfold wys; exact List.mem_map.2 ⟨j, List.mem_range.2 hj, rfl⟩)
  rw [toW_is (good_at hc (by omega))] at this
  exact this
theorem no_wys {l : List Pt} (hc : Cues l) {k : Nat} (hk : k < l.length) (h : ∃ x ∈ wys l k, okB x.1.1 x.1.2 = false) : ∃ j, j < k ∧ okB (at' l j) (at' l (j + 1)) = false := by
  obtain ⟨x, hx, hf⟩ := h
  obtain ⟨j, hj, rfl⟩ := wys_mem hx
  rw [toW_is (good_at hc (by omega))] at hf
  exact ⟨j, hj, hf⟩
/-- Between two rounds: the tempos so far, in their box; the results' cells. -/
structure Fi (w : World) (G b r : Nat) (pre : List Way) (W : World) : Prop where
  box : ∃ A c, Boxed W b 27 (.slice A (fw pre).length c) ∧ W.ownsRow G 45 2 (.slice A (fw pre).length c) (fw pre).length (cellsP (fw pre))
  own : PairW.Own w W
  siz : G ≤ W.heap.size
  r0 : Boxed W r 27 (.slice none 0 0)
  r1 : Boxed W (r + 1) 23 (.int .i64 0)
  ok : ∀ x ∈ pre, okB x.1.1 x.1.2 = true
/-- A round has left by a return. -/
structure Fx (w : World) (r : Nat) (c : Code) (pre : List Way) (W : World) : Prop where
  code : c = .ret
  own : PairW.Own w W
  r0 : Boxed W r 27 (.slice none 0 0)
  r1 : Boxed W (r + 1) 23 (.int .i64 1)
  bad : ∃ x ∈ pre, okB x.1.1 x.1.2 = false
section
variable {w W W' : World} {G b r : Nat} {pre : List Way} {c : Code}
theorem row_stp2 {B base n : Nat} {v : Value} {xs : List Value} (h : W.ownsRow base 45 2 v n xs) (q : Stp B W W') : W'.ownsRow base 45 2 v n xs := by
  refine ⟨h.1, ?_⟩
  rcases h.2 with h | ⟨g, cap, cur, h1, h2, h3, h4⟩
  · exact .inl h
  · exact .inr ⟨g, cap, cur, h1, h2, q.same g _ h3 (.inl rfl), h4⟩
theorem boxed_stp {B k : Nat} {t : TypeId} {v : Value} (h : Boxed W k t v) (q : Stp B W W') : Boxed W' k t v := q.same _ _ h (.inl rfl)
theorem boxed_own {k : Nat} {t : TypeId} {v : Value} (h : Boxed W k t v) (q : PairW.Own W W') : Boxed W' k t v := (q.block _ h.lt).trans h
theorem boxed_set {k j : Nat} {t : TypeId} {v u : Value} (h : Boxed W k t v) (hne : k ≠ j) : Boxed (W.setCell ⟨j, 0, none⟩ u) k t v := (StaW_set W j u hne).trans h
theorem Fi.stp (h : Fi w G b r pre W) (q : Stp G W W') (hG : w.heap.size ≤ G) : Fi w G b r pre W' := by
  obtain ⟨A, c, h1, h2⟩ := h.box
  exact ⟨⟨A, c, boxed_stp h1 q, row_stp2 h2 q⟩, q.own h.own hG, Nat.le_trans h.siz q.size, boxed_stp h.r0 q, boxed_stp h.r1 q, h.ok⟩
theorem Fx.stp (h : Fx w r c pre W) (q : Stp G W W') (hG : w.heap.size ≤ G) : Fx w r c pre W' := ⟨h.code, q.own h.own hG, boxed_stp h.r0 q, boxed_stp h.r1 q, h.bad⟩
end
set_option maxRecDepth 100000 in
set_option maxHeartbeats 4000000 in
theorem pfit_good (l : List Pt) (sv : Value) (M : List Pt) (f : Int) (w : World) (HP : Hid (Pts w sv l)) (HC : Hid (ccE l = 0)) (H : Hid (fiE l = f ∧ fiV l = M)) :
    Calls Try.prog 13 #[sv] w fun e w' => ∃ s', e = .returned (.tuple #[s', .int .i64 f]) ∧ w'.ownsRow w.heap.size 45 2 s' M.length (cellsP M) ∧ PairW.Own w w' := by
  obtain ⟨i0, hi, hz0, hz1, hz2⟩ := info_parts (show (Try.prog.info? 45).map (fun i => (i.zero, i.size, i.bytes)) = some (some (.agg #[.int .i64 0, .int .i64 0]), 2, 16) by kernel_rfl)
  have HI := Lib.hid hi
  have HZ0 := Lib.hid hz0
  have HZ1 := Lib.hid hz1
  have HZ2 := Lib.hid hz2
  clear hi hz0 hz1 hz2
  have hm := cc_cues.1 HC.out
  have HM := Lib.hid hm
  have n0 := hm.n0
  have n1 := hm.n1
  obtain ⟨A, cap, rfl, ha1, ha2, ha⟩ := HP.out.open
  obtain ⟨sb, so, rfl, hcc⟩ := ha (by omega)
  have HLC := Lib.hid (show sb < w.heap.size from block_lt_of_cell (hcc 0 (by omega)).1)
  obtain ⟨n, hn⟩ : ∃ n, l.length = n := ⟨_, rfl⟩
  have HN := Lib.hid hn
  rw [hn] at hcc ha1 n0 n1 HP ⊢
  have HCC := Lib.hid hcc
  have HCAP := Lib.hid ha2
  clear ha hcc hn hm ha2
  refine (callsIn_wide (n := 6)).1 ?_
  refine callsIn_of_wp_marks Try.func13 rfl trivial ?_ rfl
  simp only [Try.ntmps13, List.size_toArray, List.length_cons, List.length_nil, Nat.reduceAdd, Nat.reduceSub, Array.replicate_succ, Array.replicate_zero, List.push_toArray, List.append_toArray, List.nil_append, List.cons_append]
  gi_wp2_with (first
    | (refine ⟨trivial, ?_⟩; gi_at_call 10; refine (callsIn_wide.2 (pcheck_at l _ 0 _ (Lib.hid (HP.out.own (((PairW.Own.refl w).alloc _).alloc _))) HC)).mono ?_; rintro e w1 ⟨rfl, hg1⟩)
    | (refine ⟨trivial, ?_⟩; gi_at_call 24; refine (callsIn_wide.2 (pways_at _ _ _ _)).mono ?_; rintro e w2 ⟨rfl, rfl⟩))
  have hr0 : Boxed ((w.alloc (.cells #[.slice none 0 0] 27)).alloc (.cells #[.int .i64 0] 23)) w.heap.size 27 (.slice none 0 0) := (Boxed.new w _ _).alloc _
  have hr1 : Boxed ((w.alloc (.cells #[.slice none 0 0] 27)).alloc (.cells #[.int .i64 0] 23)) (w.heap.size + 1) 23 (.int .i64 0) := by
    have := Boxed.new (w.alloc (.cells #[.slice none 0 0] 27)) 23 (.int .i64 0)
    rwa [World.size_alloc] at this
  have hw1 : PairW.Own w w1 := (((PairW.Own.refl w).alloc _).alloc _).trans hg1
  have hrb : w.heap.size + 1 < w1.heap.size := Nat.lt_of_lt_of_le hr1.lt hg1.size
  replace hr0 := ((boxed_own hr0 hg1).alloc (.cells #[.slice none 0 0] 27)).alloc (.cells #[.slice (some ⟨sb, so, none⟩) n cap] 22)
  replace hr1 := ((boxed_own hr1 hg1).alloc (.cells #[.slice none 0 0] 27)).alloc (.cells #[.slice (some ⟨sb, so, none⟩) n cap] 22)
  have hb0 : Boxed ((w1.alloc (.cells #[.slice none 0 0] 27)).alloc (.cells #[.slice (some ⟨sb, so, none⟩) n cap] 22)) w1.heap.size 27 (.slice none 0 0) := (Boxed.new w1 _ _).alloc _
  have hb1 : Boxed ((w1.alloc (.cells #[.slice none 0 0] 27)).alloc (.cells #[.slice (some ⟨sb, so, none⟩) n cap] 22)) (w1.heap.size + 1) 22 (.slice (some ⟨sb, so, none⟩) n cap) := by
    have := Boxed.new (w1.alloc (.cells #[.slice none 0 0] 27)) 22 (.slice (some ⟨sb, so, none⟩) n cap)
    rwa [World.size_alloc] at this
  have hw4 : PairW.Own w ((w1.alloc (.cells #[.slice none 0 0] 27)).alloc (.cells #[.slice (some ⟨sb, so, none⟩) n cap] 22)) := (hw1.alloc _).alloc _
  obtain ⟨W4, hW4⟩ : ∃ W4, ((w1.alloc (.cells #[.slice none 0 0] 27)).alloc (.cells #[.slice (some ⟨sb, so, none⟩) n cap] 22)) = W4 := ⟨_, rfl⟩
  rw [hW4] at hr0 hr1 hb0 hb1 hw4 ⊢
  obtain ⟨b, hb⟩ : ∃ b, w1.heap.size = b := ⟨_, rfl⟩
  obtain ⟨r, hr⟩ : ∃ r, w.heap.size = r := ⟨_, rfl⟩
  simp only [hb, hr] at hr0 hr1 hb0 hb1 hrb ⊢
  rw [hr] at HLC
  have HR := Lib.hid hr
  clear hW4 hg1 hw1 hb hr
  have hG : b + 1 < W4.heap.size := hb1.lt
  have hrG : w.heap.size ≤ W4.heap.size := hw4.size
  obtain ⟨G, hGe⟩ : ∃ G, W4.heap.size = G := ⟨_, rfl⟩
  have HG := Lib.hid hGe
  rw [hGe] at hG hrG
  clear hGe
  have h0 : Fi w G b r [] W4 := ⟨⟨none, 0, hb0, World.ownsRow_nil _ _ _ _⟩, hw4, Nat.le_of_eq HG.out.symm, hr0, hr1, fun x hx => by cases hx⟩
  have hWy : Wy (b + 1) sb so n cap l W4 := ⟨hb1.cell, fun i hi => ⟨hw4.cell (HCC.out i hi).1, hw4.cell (HCC.out i hi).2⟩⟩
  have eg : ∀ args w, (callFunc 35 args).run Try.prog w = .ok (.enter 35 args) w := enters_of Try.func35 (by kernel_rfl) rfl
  clear hb0 hb1 hw4 hr0 hr1
  refine wpIn_rangeFunc_Dx rfl (by omega) (gf := 35) (lb := #[.pointer (some ⟨b + 1, 0, none⟩)]) rfl trivial eg
    (ways_seq l r (b + 1) sb so n cap (6 - 1) W4 HM.out HN.out ⟨n0, n1, ha1, HCAP.out⟩ HLC.out hWy (by omega)) (fun h k => h.trans k) (fun q => ⟨fun k o hk ho => q.same k o ho (.inr (by rw [HG.out]; have := HR.out; omega))⟩) (fun _ => rfl)
    (fun pre W => Fi w G b r pre W) (fun c pre W => Fx w r c pre W) (fun h q => by rw [HG.out] at q; exact h.stp q hrG) (fun h q => by rw [HG.out] at q; exact h.stp q hrG) h0
    (fun x a1 W => ∃ B1 B2 : Nat, W.heap[B1]? = some (.cells #[.int .i64 x.1.1.1, .int .i64 x.1.1.2] 40 (0, 0)) ∧ W.heap[B2]? = some (.cells #[.int .i64 x.1.2.1, .int .i64 x.1.2.2] 40 (0, 0)) ∧
      a1 = { tmps := #[.slice (some ⟨sb, so, none⟩) n cap, undef, .pointer (some ⟨r, 0, none⟩), .pointer (some ⟨r + 1, 0, none⟩), .int .i64 0, .pointer (some ⟨b, 0, none⟩), .pointer (some ⟨B1, 0, none⟩), .pointer (some ⟨B2, 0, none⟩), undef, undef, .slice (some ⟨sb, so, none⟩) n cap, .int .i64 0, .int .i64 0, .bool false, undef, .slice (some ⟨sb, so, none⟩) n cap,
        .func (.func 35) #[] #[.pointer (some ⟨b + 1, 0, none⟩)], .agg #[.int .i64 x.1.1.1, .int .i64 x.1.1.2], .agg #[.int .i64 x.1.2.1, .int .i64 x.1.2.2], undef, undef, undef, undef, undef, undef, undef, undef, undef, undef, undef, undef, undef, undef, undef, undef], defers := [] })
    (fun ⟨B1, B2, o1, o2, o3⟩ q => ⟨B1, B2, q.same _ _ o1 (.inl rfl), q.same _ _ o2 (.inl rfl), o3⟩) ?assign ?body ?done ?stop
  case assign =>
    intro l' x W K hK
    simp only [encW]
    gi_wp2
    refine hK _ _ (((PairW.Own.refl W).alloc _).alloc _) ⟨W.heap.size, W.heap.size + 1, ?_, ?_, rfl⟩
    · exact (((PairW.Own.refl (W.alloc _)).alloc _).block _ (by rw [World.size_alloc]; omega)).trans (World.alloc_heap_new W _)
    · have := World.alloc_heap_new (W.alloc (.cells #[.int .i64 x.1.1.1, .int .i64 x.1.1.2] 40)) (.cells #[.int .i64 x.1.2.1, .int .i64 x.1.2.2] 40)
      rwa [World.size_alloc] at this
  case body =>
    rintro l' pre ⟨⟨⟨x, u⟩, ⟨y, v⟩⟩, hgd⟩ a1 W hfi hlt ⟨B1, B2, o1, o2, rfl⟩
    simp only at o1 o2 ⊢
    have k0 : W.cell? ⟨B1, 0, none⟩ = some (.int .i64 x) := by simp [World.cell?, o1]
    have k1 : W.cell? ⟨B1, 1, none⟩ = some (.int .i64 u) := by simp [World.cell?, o1]
    have k2 : W.cell? ⟨B2, 0, none⟩ = some (.int .i64 y) := by simp [World.cell?, o2]
    have k3 : W.cell? ⟨B2, 1, none⟩ = some (.int .i64 v) := by simp [World.cell?, o2]
    obtain ⟨pre2, hpre⟩ : ∃ p, pre ++ [(⟨((x, u), (y, v)), hgd⟩ : Way)] = p := ⟨_, rfl⟩
    have HFW := Lib.hid (show fw pre2 = fw pre ++ bt (x, u) (y, v) by rw [← hpre, fw_snoc])
    have HMEM := Lib.hid (fun (z : Way) => show z ∈ pre2 ↔ z ∈ pre ∨ z = ⟨((x, u), (y, v)), hgd⟩ by rw [← hpre, List.mem_append, List.mem_singleton])
    rw [hpre, HG.out]
    have HF := Lib.hid hfi
    have h14 : 1 ≤ 6 - 1 - 1 := by omega
    have hGW := hfi.siz
    have hfl := fw_len pre
    have hrr := HR.out
    clear o1 o2 hfi hpre
    by_cases hok : okB (x, u) (y, v) = true
    · have HBE := Lib.hid (show beE (x, u) (y, v) = 0 ∧ beV (x, u) (y, v) = bt (x, u) (y, v) from ⟨if_pos hok, if_pos hok⟩)
      have HOK := Lib.hid hok
      obtain ⟨M2, hM2⟩ : ∃ m, bt (x, u) (y, v) = m := ⟨_, rfl⟩
      have hbl := bt_pos (x, u) (y, v)
      rw [hM2] at HBE HFW hbl
      obtain ⟨A0, c0, hbx, hrow⟩ := HF.out.box
      obtain ⟨qs, hqs⟩ : ∃ q, fw pre = q := ⟨_, rfl⟩
      rw [hqs] at hbx hrow hfl HFW
      obtain ⟨zq, hzq⟩ : ∃ z, qs.length = z := ⟨_, rfl⟩
      have HZQ := Lib.hid hzq
      rw [hzq] at hbx hrow hfl
      obtain ⟨zm, hzm⟩ : ∃ z, M2.length = z := ⟨_, rfl⟩
      have HZM := Lib.hid hzm
      rw [hzm] at hbl
      have HBX := Lib.hid hbx
      have HROW := Lib.hid hrow
      clear hok hM2 hqs hzq hzm hbx hrow
      gi_wp2_with (first
        | (refine ⟨trivial, ?_⟩; gi_at_call 25; refine (CallsIn.inRound l' (callsIn_wide.2 (pbetween_at x u y v M2 0 _ hgd HBE))).mono ?_; rintro e w5 ⟨s', rfl, hr5, hg5⟩; rw [HZM.out] at hr5; have HP5 := Lib.hid (pts_of_row (l := M2) (by rw [HZM.out]; exact hr5)); have HG5 := Lib.hid hg5; have hb5 := boxed_own HBX.out hg5; have m0 := hb5.cell; have HB5 := Lib.hid hb5; have HROW5 := Lib.hid (row_own HROW.out hg5); have hs5 : G ≤ w5.heap.size := Nat.le_trans hGW hg5.size; obtain ⟨A5, c5, rfl⟩ := TemW.pair_shape hr5; clear hr5 hg5 hb5)
        | (gi_at_builtin; refine wpListIn_append_row_any w5 rfl _ _ _ rfl G 45 i0 (.agg #[.int .i64 0, .int .i64 0]) 2 16 Try.underlying27 HI.out HZ0.out HZ1.out HZ2.out rfl (by decide) (.slice A0 zq c0) zq (cellsP qs) rfl HROW5.out A5 zm c5 (cellsP M2) rfl (by rw [cellsP_len, HZM.out]) (pts_src2 HP5.out) (cellsP_one M2) (by unfold maxLen; omega) (by omega) hs5 ?_; intro v6 w6 hown hgrow; have HOWN := Lib.hid hown; have HGR := Lib.hid hgrow; have hne : some b ≠ (Value.slice A0 zq c0).ownBlock := (fun e => (by have := (HROW5.out.lt b e.symm).1; omega)); have hb6 := HB5.out.kept hgrow hne; have f6 := hb6.frozen; have m6 := hb6.cell; have HB6 := Lib.hid hb6; obtain ⟨A7, c7, rfl⟩ := TemW.pair_shape hown; clear hown hgrow hb6 hne))
      have hrow5 := HROW5.out
      have hgr := HGR.out
      have hbg : ∀ k, k < G → some k ≠ (Value.slice A0 zq c0).ownBlock := fun k hk e => by
        have := (hrow5.lt k e.symm).1
        omega
      have q6 : PairW.Own w w6 := (HF.out.own.trans HG5.out).grown hgr (fun k hk => by
        have := (hrow5.lt k hk).1
        omega)
      refine ⟨((keeps_own _ HG5.out).trans (keeps_row _ hrow5 hgr)).trans ((KeepsOthers.setCell _ _ _).from _), (kw_own HG5.out).trans ⟨fun k o hk hko => ?_⟩, ?_⟩
      · have hkl := (Array.getElem?_eq_some_iff.1 hko).1
        rw [StaW_set w6 b _ (by omega), hgr.block k hkl (hbg k (by omega))]
        exact hko
      · refine ⟨⟨A7, c7, ?_, ?_⟩, q6.setCell (p := ⟨b, 0, none⟩) (by show w.heap.size ≤ b; omega) _, ?_, ?_, ?_, ?_⟩
        · rw [HFW.out, List.length_append, HZQ.out, HZM.out]
          exact HB6.out.set _
        · rw [HFW.out, List.length_append, HZQ.out, HZM.out, RowA.cellsP_app]
          exact row_set_any HOWN.out (by omega) _
        · exact Nat.le_trans hs5 (Nat.le_trans hgr.size (by simp [World.setCell]))
        · exact boxed_set ((boxed_own HF.out.r0 HG5.out).kept hgr (hbg r (by omega))) (by omega)
        · exact boxed_set ((boxed_own HF.out.r1 HG5.out).kept hgr (hbg (r + 1) (by omega))) (by omega)
        · intro z hz
          rcases (HMEM.out z).1 hz with h | h
          · exact HF.out.ok z h
          · rw [h]; exact HOK.out
    · have HBE := Lib.hid (show beE (x, u) (y, v) = 1 ∧ beV (x, u) (y, v) = [] from ⟨if_neg hok, if_neg hok⟩)
      have HBAD := Lib.hid (show ∃ z ∈ pre2, okB z.1.1 z.1.2 = false from ⟨⟨((x, u), (y, v)), hgd⟩, (HMEM.out _).2 (.inr rfl), Bool.eq_false_iff.2 hok⟩)
      clear hok hfl HFW
      gi_wp2_with (refine ⟨trivial, ?_⟩; gi_at_call 25; refine (CallsIn.inRound l' (callsIn_wide.2 (pbetween_at x u y v [] 1 _ hgd HBE))).mono ?_; rintro e w5 ⟨s', rfl, hr5, hg5⟩; have HG5 := Lib.hid hg5; have b0 := boxed_own HF.out.r0 hg5; have b1 := boxed_own HF.out.r1 hg5; have m0 := b0.cell; have m1 := b1.cell; have f0 := b0.frozen; have f1 := b1.frozen; obtain ⟨A5, c5, rfl⟩ := TemW.pair_shape hr5; clear hr5 hg5)
      have hq := HF.out.own.trans HG5.out
      refine ⟨((keeps_own _ HG5.out).trans ((KeepsOthers.setCell _ _ _).from _)).trans ((KeepsOthers.setCell _ _ _).from _), rfl, (hq.setCell (p := ⟨r, 0, none⟩) (Nat.le_of_eq hrr) _).setCell (p := ⟨r + 1, 0, none⟩) (by show w.heap.size ≤ r + 1; omega) _, boxed_set (b0.set _) (by omega), (boxed_set b1 (by omega)).set _, HBAD.out⟩
  case done =>
    rintro D ys W hD rfl hfi hK
    obtain ⟨A0, c0, hbx, hrow⟩ := hfi.box
    have hc := HM.out
    have hnl : l.length - 1 = n - 1 := by rw [HN.out]
    rw [fw_wys hc (by rw [HN.out]; omega)] at hbx hrow
    have hok := ok_wys hc (by rw [HN.out]; omega) hfi.ok
    have hrr := HR.out
    have q0 := hfi.own
    have b0 := hfi.r0
    have b1 := hfi.r1
    have m0 := b0.cell
    have m1 := b1.cell
    have f0 := b0.frozen
    have f1 := b1.frozen
    have mb := hbx.cell
    have HK := Lib.hid hK
    rw [HG.out] at hD
    obtain ⟨qs, hqs⟩ : ∃ q, fs l (n - 1) = q := ⟨_, rfl⟩
    rw [hqs] at hrow mb
    obtain ⟨z, hz⟩ : ∃ z, qs.length = z := ⟨_, rfl⟩
    have HZ := Lib.hid hz
    rw [hz] at hrow mb
    have HROW := Lib.hid hrow
    by_cases hbig : 64 < z
    · have e := fi_full HC.out (by rw [hnl]; exact hok) (by rw [hnl, hqs, hz]; exact hbig)
      obtain rfl : 3 = f := by rw [← H.out.1, e]
      obtain rfl : [] = M := by rw [← H.out.2, fi_none (by rw [e]; decide)]
      have t1 : (64 : Int) < z := by omega
      clear e hok hfi hbx hrow hz hqs hK hc
      gi_wp2
      have hK2 := ((KeepsOthers.setCell W ⟨r, 0, none⟩ (.slice none 0 0)).trans (KeepsOthers.setCell _ ⟨r + 1, 0, none⟩ (.int .i64 3))).same D _ HK.out rfl
      refine ⟨by simp, .inl ⟨_, _, rfl, run_takeDeferred hK2, ?_⟩⟩
      have hst := Stp.put (B := G) (.deferred none) hD hK2 rfl
      have n0' := boxed_stp (boxed_set (j := r + 1) (u := .int .i64 3) (b0.set (.slice none 0 0)) (by omega)) hst
      have n1' := boxed_stp ((boxed_set (j := r) (u := .slice none 0 0) b1 (by omega)).set (.int .i64 3)) hst
      exact ⟨_, fit_results rfl rfl n0'.cell n1'.cell, _, rfl, World.ownsRow_nil _ _ _ _, hst.own ((q0.setCell (p := ⟨r, 0, none⟩) (Nat.le_of_eq hrr) _).setCell (p := ⟨r + 1, 0, none⟩) (by show w.heap.size ≤ r + 1; omega) _) hrG⟩
    · have e := fi_ok HC.out (by rw [hnl]; exact hok) (by rw [hnl, hqs, hz]; omega)
      obtain rfl : 0 = f := by rw [← H.out.1, e.1]
      obtain rfl : qs = M := by rw [← H.out.2, e.2, hnl, hqs]
      have t1 : ¬ (64 : Int) < z := by omega
      clear e hok hfi hbx hrow hz hqs hK hc
      gi_wp2
      have hK2 := ((KeepsOthers.setCell W ⟨r, 0, none⟩ (.slice A0 z c0)).trans (KeepsOthers.setCell _ ⟨r + 1, 0, none⟩ (.int .i64 0))).same D _ HK.out rfl
      refine ⟨by simp, .inl ⟨_, _, rfl, run_takeDeferred hK2, ?_⟩⟩
      have hst := Stp.put (B := G) (.deferred none) hD hK2 rfl
      have n0' := boxed_stp (boxed_set (j := r + 1) (u := .int .i64 0) (b0.set (.slice A0 z c0)) (by omega)) hst
      have n1' := boxed_stp ((boxed_set (j := r) (u := .slice A0 z c0) b1 (by omega)).set (.int .i64 0)) hst
      have hrow2 := row_stp2 (row_set_any (b := r + 1) (row_set_any (b := r) HROW.out (by omega) (.slice A0 z c0)) (by omega) (.int .i64 0)) hst
      exact ⟨_, fit_results rfl rfl n0'.cell n1'.cell, _, rfl, by rw [HZ.out]; exact row_down hrow2 (by omega), hst.own ((q0.setCell (p := ⟨r, 0, none⟩) (Nat.le_of_eq hrr) _).setCell (p := ⟨r + 1, 0, none⟩) (by show w.heap.size ≤ r + 1; omega) _) hrG⟩
  case stop =>
    rintro D c pre W hD ⟨k, hk, rfl⟩ hfx hK
    obtain rfl := hfx.code
    obtain ⟨j, hj, hbad⟩ := no_wys HM.out (by rw [HN.out]; omega) hfx.bad
    have e := fi_no HC.out (k := j) (by rw [HN.out]; omega) hbad
    obtain rfl : 1 = f := by rw [← H.out.1, e]
    obtain rfl : [] = M := by rw [← H.out.2, fi_none (by rw [e]; decide)]
    have q0 := hfx.own
    have b0 := hfx.r0
    have b1 := hfx.r1
    rw [HG.out] at hD
    clear e hbad hfx
    gi_wp2
    refine ⟨by simp, .inl ⟨_, _, rfl, run_takeDeferred hK, ?_⟩⟩
    have hst := Stp.put (B := G) (.deferred none) hD hK rfl
    exact ⟨_, fit_results rfl rfl (boxed_stp b0 hst).cell (boxed_stp b1 hst).cell, _, rfl, World.ownsRow_nil _ _ _ _, hst.own q0 hrG⟩
set_option maxRecDepth 100000 in
set_option maxHeartbeats 1000000 in
theorem pfit_at (l : List Pt) (sv : Value) (M : List Pt) (f : Int) (w : World) (HP : Hid (Pts w sv l)) (H : Hid (fiE l = f ∧ fiV l = M)) :
    Calls Try.prog 13 #[sv] w fun e w' => ∃ s', e = .returned (.tuple #[s', .int .i64 f]) ∧ w'.ownsRow w.heap.size 45 2 s' M.length (cellsP M) ∧ PairW.Own w w' := by
  obtain ⟨c0, hc⟩ : ∃ c, ccE l = c := ⟨_, rfl⟩
  have HC := Lib.hid hc
  by_cases h0 : c0 = 0
  · subst h0
    exact pfit_good l sv M f w HP HC H
  · have e := fi_bad (l := l) (by rw [hc]; exact h0)
    obtain rfl : c0 = f := by rw [← H.out.1, e, hc]
    obtain rfl : [] = M := by rw [← H.out.2, fi_none (by rw [e, hc]; exact h0)]
    have d0 : (c0 != 0) = true := bne_iff_ne.2 h0
    have hr0 : Boxed ((w.alloc (.cells #[.slice none 0 0] 27)).alloc (.cells #[.int .i64 0] 23)) w.heap.size 27 (.slice none 0 0) := (Boxed.new w _ _).alloc _
    have hr1 : Boxed ((w.alloc (.cells #[.slice none 0 0] 27)).alloc (.cells #[.int .i64 0] 23)) (w.heap.size + 1) 23 (.int .i64 0) := by
      have := Boxed.new (w.alloc (.cells #[.slice none 0 0] 27)) 23 (.int .i64 0)
      rwa [World.size_alloc] at this
    have g0 : PairW.Own w ((w.alloc (.cells #[.slice none 0 0] 27)).alloc (.cells #[.int .i64 0] 23)) := ((PairW.Own.refl w).alloc _).alloc _
    obtain ⟨r, hr⟩ : ∃ r, w.heap.size = r := ⟨_, rfl⟩
    have HR := Lib.hid hr
    obtain ⟨A, cap, rfl, _⟩ := HP.out.open
    rw [hr] at hr0 hr1
    clear H hc e
    go_enter Try.func13, Try.ntmps13
    go_wp2_with (go_at_call 10; refine (pcheck_at l _ c0 _ (Lib.hid (HP.out.own g0)) HC).mono ?_; rintro e w1 ⟨rfl, hg1⟩; have b0 := boxed_own hr0 hg1; have b1 := boxed_own hr1 hg1; have m0 := b0.cell; have m1 := b1.cell; have f0 := b0.frozen; have f1 := b1.frozen; have q0 := g0.trans hg1)
    have hrr := HR.out
    have n0' := boxed_set (j := r + 1) (u := .int .i64 c0) (b0.set (.slice none 0 0)) (by omega)
    have n1' := (boxed_set (j := r) (u := .slice none 0 0) b1 (by omega)).set (.int .i64 c0)
    exact bodyPost_ret (fit_results rfl rfl n0'.cell n1'.cell) rfl ⟨_, rfl, World.ownsRow_nil _ _ _ _, (q0.setCell (p := ⟨r, 0, none⟩) (Nat.le_of_eq hrr) _).setCell (p := ⟨r + 1, 0, none⟩) (by show w.heap.size ≤ r + 1; omega) _⟩
end Go.Proofs.Ytlepcahangkmiaa.CueW
