/-
  A method that is called on a pointer through an interface value; walks of the program's heap of nodes: Len, Less, Swap, Push, Pop. Condition: none.
-/
import Derived.Test.YtkdfmjhhdfiiiaaLists
import Derived.Test.YtkdfmjhhdfiiiaaBytes
import Derived.Test.YtkdfmjhhdfiiiaaHeapPlain
import Derived.Test.YtkdfmjhhdfiiiaaGraphE
import Derived.Deep.AppendLies
import Derived.Deep.DeepHandedRow
import Derived.Deep.RegionLaw
namespace Go.Proofs.Ytkdfmjhhdfiiiaa.HepW
open Go.ChangeShapes Go.WideShapes Go.ChangeAt Go.RowKit
open PairW CelW HepP GraP GraW
theorem chk_ptr {P : Program} (a : Array TypeId) (b : TypeId) (p : Addr) (x y : String) (w : World) : (Builtin.ssaWrapNilChk_ a b #[.pointer (some p), strVal x, strVal y]).run P w = .ok (.pointer (some p)) w := rfl
theorem run_info {P : Program} {t : TypeId} {i : TypeInfo} (h : P.info? t = some i) (w : World) : (typeInfo t).run P w = .ok i w := by
  simp [typeInfo, h]
/-- A method that is called on a pointer, its receiver a value: where the pointer leads is read. -/
theorem method_ptr {P : Program} {fuel f : Nat} {T U : TypeId} {name : String} (hm : ((P.info? T).bind fun i => (i.methods.find? (·.name == name)).map fun m => (m.path.toList, m.func)) = some ([], some (f, false))) (hu : P.underlying T = some (.pointer U)) (p : Addr) (v : Value) (w : World) (hl : (loadVar U p).run P w = .ok v w) :
    (method (fuel + 1) T (.pointer (some p)) name).run P w = .ok (f, v) w := by
  cases hi : P.info? T with
  | none => rw [hi] at hm; cases hm
  | some i =>
    rw [hi] at hm
    cases hf : i.methods.find? (·.name == name) with
    | none =>
      have : ((i.methods.find? (·.name == name)).map fun m => (m.path.toList, m.func)) = some ([], some (f, false)) := hm
      rw [hf] at this
      cases this
    | some m =>
      have : ((i.methods.find? (·.name == name)).map fun m => (m.path.toList, m.func)) = some ([], some (f, false)) := hm
      rw [hf] at this
      injection this with this
      injection this with e1 e2
      have e3 : m.path = #[] := Array.toList_eq_nil_iff.1 e1
      unfold method
      simp [Sem.run_bind, run_info hi, hf, e2, e3, follow, receiverAt, Place.get, run_underlying hu, chk_ptr, asAddr, hl]
abbrev HT : TypeId := 53
theorem nil_len (p : Addr) (w : World) : (nilAhead 224 HT (.pointer (some p)) "Len").run Try.prog w = .ok (some false) w := by kernel_rfl
theorem nil_less (p : Addr) (w : World) : (nilAhead 224 HT (.pointer (some p)) "Less").run Try.prog w = .ok (some false) w := by kernel_rfl
theorem nil_swap (p : Addr) (w : World) : (nilAhead 224 HT (.pointer (some p)) "Swap").run Try.prog w = .ok (some false) w := by kernel_rfl
theorem nil_push (p : Addr) (w : World) : (nilAhead 224 HT (.pointer (some p)) "Push").run Try.prog w = .ok (some false) w := by kernel_rfl
theorem nil_pop (p : Addr) (w : World) : (nilAhead 224 HT (.pointer (some p)) "Pop").run Try.prog w = .ok (some false) w := by kernel_rfl
theorem load_w (b o : Nat) (v : Value) (w : World) (hc : w.cell? ⟨b, o, none⟩ = some v) : (loadVar 51 ⟨b, o, none⟩).run Try.prog w = .ok v w := by go_simp
theorem m_len (b : Nat) (v : Value) (w : World) (hc : w.cell? ⟨b, 0, none⟩ = some v) : (method 224 HT (.pointer (some ⟨b, 0, none⟩)) "Len").run Try.prog w = .ok (90, v) w :=
  method_ptr (U := 51) (by kernel_rfl) Try.underlying53 _ v w (load_w b 0 v w hc)
theorem m_less (b : Nat) (v : Value) (w : World) (hc : w.cell? ⟨b, 0, none⟩ = some v) : (method 224 HT (.pointer (some ⟨b, 0, none⟩)) "Less").run Try.prog w = .ok (91, v) w :=
  method_ptr (U := 51) (by kernel_rfl) Try.underlying53 _ v w (load_w b 0 v w hc)
theorem m_swap (b : Nat) (v : Value) (w : World) (hc : w.cell? ⟨b, 0, none⟩ = some v) : (method 224 HT (.pointer (some ⟨b, 0, none⟩)) "Swap").run Try.prog w = .ok (92, v) w :=
  method_ptr (U := 51) (by kernel_rfl) Try.underlying53 _ v w (load_w b 0 v w hc)
theorem m_push (p : Addr) (w : World) : (method 224 HT (.pointer (some p)) "Push").run Try.prog w = .ok (94, .pointer (some p)) w := by kernel_rfl
theorem m_pop (p : Addr) (w : World) : (method 224 HT (.pointer (some p)) "Pop").run Try.prog w = .ok (93, .pointer (some p)) w := by kernel_rfl
/-! ### The methods -/
abbrev Rw (w : World) (base g n c : Nat) (H : List Nat) : Prop := w.ownsRow base 3 1 (.slice (some ⟨g, 0, none⟩) n c) n (cellsI (ints H))
theorem Rw.len {w : World} {base g n c : Nat} {H : List Nat} (h : Rw w base g n c H) : H.length = n := by
  have := h.1
  rw [cellsI_len, ints_len] at this
  omega
theorem Rw.at {w : World} {base g n c : Nat} {H : List Nat} (h : Rw w base g n c H) {i : Nat} (hi : i < n) : w.cell? ⟨g, i, none⟩ = some (.int .i64 (hx H i : Int)) ∧ w.frozen? ⟨g, i, none⟩ = false := by
  have hl := h.len
  refine ⟨?_, World.ownsRow.frozenAt h i⟩
  rw [World.ownsRow.cellAt h i (by omega)]
  unfold cellsI
  rw [List.getElem?_map, ints_at (hx_get (by omega))]
  rfl
theorem ints_set (H : List Nat) (i x : Nat) : (ints H).set i (x : Int) = ints (H.set i x) := by unfold ints; rw [List.map_set]
theorem Rw.put {w : World} {base g n c : Nat} {H : List Nat} (h : Rw w base g n c H) (i x : Nat) : Rw (w.setCell ⟨g, i, none⟩ (.int .i64 (x : Int))) base g n c (H.set i x) := by
  show World.ownsRow _ _ _ _ _ _ (cellsI (ints (H.set i x)))
  rw [← ints_set, ← cellsI_set]
  exact (World.ownsRow.stored h i _).1
theorem Rw.drewN {w : World} {base g n c : Nat} {H : List Nat} (h : Rw w base g n c H) (q : Nat) : Rw (w.drewN q) base g n c H := h
theorem Rw.bounds {w : World} {base g n c : Nat} {H : List Nat} (h : Rw w base g n c H) : base ≤ g ∧ g < w.heap.size ∧ n ≤ c ∧ c ≤ maxLen := by
  rcases h.2 with ⟨h1, _⟩ | ⟨g', cap, cur, h1, h2, h3, h4, h5, _⟩
  · cases h1
  · injection h1 with h1 _ h6
    injection h1 with h1
    injection h1 with h1
    subst h1
    subst h6
    exact ⟨h2, (Array.getElem?_eq_some_iff.1 h3).1, h4, h5⟩
/-- Nothing that was there has turned but one block. -/
structure Gr (w w' : World) (g : Nat) : Prop where
  os : w'.os = w.os
  output : w'.output = w.output
  size : w.heap.size ≤ w'.heap.size
  block : ∀ k, k < w.heap.size → k ≠ g → w'.heap[k]? = w.heap[k]?
theorem Gr.refl (w : World) (g : Nat) : Gr w w g := ⟨rfl, rfl, Nat.le_refl _, fun _ _ _ => rfl⟩
theorem Gr.drewN {w w' : World} {g : Nat} (h : Gr w w' g) (n : Nat) : Gr w (w'.drewN n) g := ⟨h.os, h.output, h.size, h.block⟩
theorem Gr.drew {w w' : World} {g : Nat} (h : Gr w w' g) : Gr w w'.drew g := ⟨h.os, h.output, h.size, h.block⟩
theorem Gr.trans {a b c : World} {g : Nat} (h : Gr a b g) (k : Gr b c g) : Gr a c g := ⟨k.os.trans h.os, k.output.trans h.output, Nat.le_trans h.size k.size, fun i hi hne => (k.block i (Nat.lt_of_lt_of_le hi h.size) hne).trans (h.block i hi hne)⟩
theorem set_other (w : World) (g i : Nat) (u : Value) {k : Nat} (h : k ≠ g) : (w.setCell ⟨g, i, none⟩ u).heap[k]? = w.heap[k]? := by
  unfold World.setCell
  simp only [Array.getElem?_modify]
  rw [if_neg (fun e => h e.symm)]
theorem Gr.set {a w : World} {g : Nat} (h : Gr a w g) (i : Nat) (u : Value) : Gr a (w.setCell ⟨g, i, none⟩ u) g :=
  ⟨h.os, h.output, by simpa [World.setCell] using h.size, fun k hk hne => (set_other w g i u hne).trans (h.block k hk hne)⟩
theorem Gr.own {a w w' : World} {g : Nat} (q : Own a w) (h : Gr w w' g) (hg : a.heap.size ≤ g) : Own a w' := ⟨h.os.trans q.os, h.output.trans q.output, Nat.le_trans q.size h.size, fun k hk => (h.block k (Nat.lt_of_lt_of_le hk q.size) (by omega)).trans (q.block k hk)⟩
set_option maxRecDepth 100000 in
theorem hlen_at (A : Option Addr) (n c : Nat) (w : World) : Calls Try.prog 90 #[.slice A n c] w fun e w' => e = .returned (.int .i64 (n : Int)) ∧ w = w' := by
  go_enter Try.func90, Try.ntmps90
  go_wp2
  go_ret
  exact ⟨rfl, rfl⟩
set_option maxRecDepth 100000 in
theorem hless_at (base g n c i j : Nat) (H : List Nat) (t : Bool) (w : World) (HR : Hid (Rw w base g n c H)) (hi : i < n) (hj : j < n) (HT : Hid (decide (hx H i < hx H j) = t)) :
    Calls Try.prog 91 #[.slice (some ⟨g, 0, none⟩) n c, .int .i64 (i : Int), .int .i64 (j : Int)] w fun e w' => e = .returned (.bool t) ∧ ∃ q, w' = w.drewN q := by
  obtain ⟨_, _, b1, b2⟩ := HR.out.bounds
  unfold maxLen at b2
  have c0 := (HR.out.at hi).1
  have c1 := (HR.out.at hj).1
  have hi2 : (i : Int) < n := by omega
  have hj2 : (j : Int) < n := by omega
  have ht := HT.out
  obtain ⟨x, hx⟩ : ∃ x, hx H i = x := ⟨_, rfl⟩
  obtain ⟨y, hy⟩ : ∃ y, HepP.hx H j = y := ⟨_, rfl⟩
  rw [hx, hy] at ht
  rw [hx] at c0
  rw [hy] at c1
  have HT2 := Lib.hid (show decide ((x : Int) < y) = t by rw [← ht]; exact decide_eq_decide.2 (by omega))
  clear hx hy ht HT
  go_enter Try.func91, Try.ntmps91
  go_upto_region 1 with (fail)
  go_quiet (fail)
  go_wp2
  go_ret
  refine ⟨ret_bool ?_, _, rfl⟩
  first | exact HT2.out | (rw [← HT2.out]; exact decide_eq_decide.2 (by omega))
set_option maxRecDepth 100000 in
theorem hswap_ne (base g n c i j : Nat) (H : List Nat) (w : World) (HR : Hid (Rw w base g n c H)) (hi : i < n) (hj : j < n) (hij : i ≠ j) :
    Calls Try.prog 92 #[.slice (some ⟨g, 0, none⟩) n c, .int .i64 (i : Int), .int .i64 (j : Int)] w fun e w' => e = .returned (.tuple #[]) ∧ Rw w' base g n c (sw H i j) ∧ Gr w w' g := by
  obtain ⟨_, _, b1, b2⟩ := HR.out.bounds
  unfold maxLen at b2
  obtain ⟨c0, f0⟩ := HR.out.at hi
  obtain ⟨c1, f1⟩ := HR.out.at hj
  have hi2 : (i : Int) < n := by omega
  have hj2 : (j : Int) < n := by omega
  have hij2 : j ≠ i := fun e => hij e.symm
  obtain ⟨x, hx⟩ : ∃ x, hx H i = x := ⟨_, rfl⟩
  obtain ⟨y, hy⟩ : ∃ y, HepP.hx H j = y := ⟨_, rfl⟩
  rw [hx] at c0
  rw [hy] at c1
  have HX := Lib.hid hx
  have HY := Lib.hid hy
  clear hx hy
  go_enter Try.func92, Try.ntmps92
  go_wp2_with fail
  go_region
  go_end0
  refine ⟨rfl, ?_, ((((Gr.refl w g).set i _).set j _).drew)⟩
  have := (HR.out.put i y).put j x
  rw [← HX.out, ← HY.out] at this ⊢
  exact this
set_option maxRecDepth 100000 in
theorem hswap_eq (base g n c i : Nat) (H : List Nat) (w : World) (HR : Hid (Rw w base g n c H)) (hi : i < n) :
    Calls Try.prog 92 #[.slice (some ⟨g, 0, none⟩) n c, .int .i64 (i : Int), .int .i64 (i : Int)] w fun e w' => e = .returned (.tuple #[]) ∧ Rw w' base g n c (sw H i i) ∧ Gr w w' g := by
  obtain ⟨_, _, b1, b2⟩ := HR.out.bounds
  unfold maxLen at b2
  obtain ⟨c0, f0⟩ := HR.out.at hi
  have hi2 : (i : Int) < n := by omega
  obtain ⟨x, hx⟩ : ∃ x, hx H i = x := ⟨_, rfl⟩
  rw [hx] at c0
  have HX := Lib.hid hx
  clear hx
  go_enter Try.func92, Try.ntmps92
  go_wp2_with fail
  go_region
  go_end0
  refine ⟨rfl, ?_, ((((Gr.refl w g).set i _).set i _).drew)⟩
  have := (HR.out.put i x).put i x
  rw [← HX.out] at this ⊢
  exact this
theorem hswap_at (base g n c i j : Nat) (H : List Nat) (w : World) (HR : Hid (Rw w base g n c H)) (hi : i < n) (hj : j < n) :
    Calls Try.prog 92 #[.slice (some ⟨g, 0, none⟩) n c, .int .i64 (i : Int), .int .i64 (j : Int)] w fun e w' => e = .returned (.tuple #[]) ∧ Rw w' base g n c (sw H i j) ∧ Gr w w' g := by
  by_cases e : i = j
  · subst e
    exact hswap_eq base g n c i H w HR hi
  · exact hswap_ne base g n c i j H w HR hi hj e
/-- The waiting nodes: the variable at hb holds the slice v, a row of the call's own. -/
structure Wv (w : World) (base hb : Nat) (v : Value) (H : List Nat) : Prop where
  bx : w.heap[hb]? = some (.cells #[v] 51 (0, 0))
  rw : w.ownsRow base 3 1 v H.length (cellsI (ints H))
theorem Wv.cell {w : World} {base hb : Nat} {v : Value} {H : List Nat} (h : Wv w base hb v H) : w.cell? ⟨hb, 0, none⟩ = some v ∧ w.frozen? ⟨hb, 0, none⟩ = false := by
  constructor
  · rw [cell_of_row w hb 0 #[v] _ (0, 0) h.bx]
    rfl
  · simp [World.frozen?, h.bx]
theorem Wv.lt {w : World} {base hb : Nat} {v : Value} {H : List Nat} (h : Wv w base hb v H) : hb < w.heap.size := (Array.getElem?_eq_some_iff.1 h.bx).1
theorem Wv.ne {w : World} {base hb : Nat} {v : Value} {H : List Nat} (h : Wv w base hb v H) : v.ownBlock ≠ some hb := fun e => by
  rcases h.rw.2 with ⟨h1, _⟩ | ⟨g, cap, cur, h1, _, h3, _⟩
  · rw [h1] at e; cases e
  · rw [h1] at e
    injection e with e
    have e : g = hb := e
    rw [e, h.bx] at h3
    injection h3 with h3
    injection h3 with _ h3 _
    exact absurd h3 (by decide)
/-- What a turn of the waiting nodes leaves. -/
structure Ch (w w' : World) (hb : Nat) (v v' : Value) : Prop where
  os : w'.os = w.os
  output : w'.output = w.output
  size : w.heap.size ≤ w'.heap.size
  block : ∀ k, k < w.heap.size → k ≠ hb → v.ownBlock ≠ some k → w'.heap[k]? = w.heap[k]?
  lies : ∀ g, v'.ownBlock = some g → v.ownBlock = some g ∨ w.heap.size ≤ g
theorem Ch.refl (w : World) (hb : Nat) (v : Value) : Ch w w hb v v := ⟨rfl, rfl, Nat.le_refl _, fun _ _ _ _ => rfl, fun _ h => .inl h⟩
theorem Ch.trans {a b c : World} {hb : Nat} {u v x : Value} (h : Ch a b hb u v) (k : Ch b c hb v x) : Ch a c hb u x where
  os := k.os.trans h.os
  output := k.output.trans h.output
  size := Nat.le_trans h.size k.size
  block i hi hne hu := (k.block i (Nat.lt_of_lt_of_le hi h.size) hne fun e => (h.lies i e).elim hu fun e => by omega).trans (h.block i hi hne hu)
  lies g hg := (k.lies g hg).elim (h.lies g) fun e => .inr (Nat.le_trans h.size e)
theorem Ch.drewN {w w' : World} {hb : Nat} {v v' : Value} (h : Ch w w' hb v v') (n : Nat) : Ch w (w'.drewN n) hb v v' := ⟨h.os, h.output, h.size, h.block, h.lies⟩
theorem Wv.drewN {w : World} {base hb : Nat} {v : Value} {H : List Nat} (h : Wv w base hb v H) (n : Nat) : Wv (w.drewN n) base hb v H := ⟨h.bx, h.rw⟩
/-- The row alone has turned. -/
theorem Ch.of_gr {w w' : World} {hb g n c m d : Nat} (h : Gr w w' g) : Ch w w' hb (.slice (some ⟨g, 0, none⟩) n c) (.slice (some ⟨g, 0, none⟩) m d) :=
  ⟨h.os, h.output, h.size, fun k hk _ hne => h.block k hk fun e => hne (by rw [e]; rfl), fun _ h => .inl h⟩
theorem Wv.gr {w w' : World} {base hb g n c : Nat} {H H' : List Nat} (h : Wv w base hb (.slice (some ⟨g, 0, none⟩) n c) H) (q : Gr w w' g) (hr : w'.ownsRow base 3 1 (.slice (some ⟨g, 0, none⟩) n c) H'.length (cellsI (ints H'))) : Wv w' base hb (.slice (some ⟨g, 0, none⟩) n c) H' :=
  ⟨(q.block hb h.lt fun e => h.ne (by rw [e]; rfl)).trans h.bx, hr⟩
/-- The variable at hb holds another slice. -/
theorem set_box {w : World} {hb : Nat} {v : Value} {T : TypeId} (h : w.heap[hb]? = some (.cells #[v] T (0, 0))) (u : Value) : (w.setCell ⟨hb, 0, none⟩ u).heap[hb]? = some (.cells #[u] T (0, 0)) := by
  unfold World.setCell
  simp [Array.getElem?_modify, h]
theorem box_done {w w4 : World} {base hb g n c : Nat} {v : Value} {H' : List Nat} (bx : w4.heap[hb]? = some (.cells #[v] 51 (0, 0))) (hne : hb ≠ g) (hr : w4.ownsRow base 3 1 (.slice (some ⟨g, 0, none⟩) n c) n (cellsI (ints H'))) (hn : H'.length = n) (hq : Ch w w4 hb v (.slice (some ⟨g, 0, none⟩) n c)) :
    Wv (w4.setCell ⟨hb, 0, none⟩ (.slice (some ⟨g, 0, none⟩) n c)) base hb (.slice (some ⟨g, 0, none⟩) n c) H' ∧ Ch w (w4.setCell ⟨hb, 0, none⟩ (.slice (some ⟨g, 0, none⟩) n c)) hb v (.slice (some ⟨g, 0, none⟩) n c) := by
  refine ⟨⟨set_box bx _, by rw [hn]; exact row_set hr hne _⟩, hq.os, hq.output, by simpa [World.setCell] using hq.size, fun k hk h1 h2 => (set_other w4 hb 0 _ h1).trans (hq.block k hk h1 h2), hq.lies⟩
theorem push_done {w wa w4 : World} {base hb g n c x : Nat} {v : Value} {H : List Nat} (q : Own w wa) (hgr : wa.grownBy w4 v.ownBlock) (hown : w4.ownsRow base 3 1 (.slice (some ⟨g, 0, none⟩) (n + 1) c) (n + 1) (cellsI (ints H) ++ [.int .i64 (x : Int)])) (hat : v.ownBlock = some g ∨ g = wa.heap.size) (bx : w.heap[hb]? = some (.cells #[v] 51 (0, 0))) (hne : some hb = v.ownBlock → False) (hn : H.length = n) :
    ∃ g' c', Wv (w4.setCell ⟨hb, 0, none⟩ (.slice (some ⟨g, 0, none⟩) (n + 1) c)) base hb (.slice (some ⟨g', 0, none⟩) (n + 1) c') (H ++ [x]) ∧ Ch w (w4.setCell ⟨hb, 0, none⟩ (.slice (some ⟨g, 0, none⟩) (n + 1) c)) hb v (.slice (some ⟨g', 0, none⟩) (n + 1) c') := by
  have hlt : hb < w.heap.size := (Array.getElem?_eq_some_iff.1 bx).1
  have hlt2 := Nat.lt_of_lt_of_le hlt q.size
  refine ⟨g, c, box_done (v := v) ((hgr.block hb hlt2 hne).trans ((q.block hb hlt).trans bx)) ?_ (by rw [ints_app, cellsI_app]; exact hown) (by rw [List.length_append, hn]; rfl) ⟨hgr.os.trans q.os, hgr.output.trans q.output, Nat.le_trans q.size hgr.size, fun k hk _ h2 => (hgr.block k (Nat.lt_of_lt_of_le hk q.size) fun e => h2 e.symm).trans (q.block k hk), fun j hj => ?_⟩⟩
  · intro e
    rcases hat with h | h
    · exact hne (by rw [h, e])
    · omega
  · have hj : g = j := by injection hj
    subst hj
    exact hat.imp id fun h => by have := q.size; omega
/-- The first ones of a row. -/
theorem row_less {w : World} {base g n m c : Nat} {e : TypeId} {xs : List Value} (h : w.ownsRow base e 1 (.slice (some ⟨g, 0, none⟩) n c) n xs) (hm : m ≤ n) : w.ownsRow base e 1 (.slice (some ⟨g, 0, none⟩) m c) m (xs.take m) := by
  rcases h.2 with ⟨h1, _⟩ | ⟨g', cap, cur, h1, h2, h3, h4, h5, h6, h7⟩
  · cases h1
  · injection h1 with e1 _ e3
    injection e1 with e1
    injection e1 with e1
    subst e1
    subst e3
    refine ⟨by rw [List.length_take, h.1]; omega, .inr ⟨g, c, cur, rfl, h2, h3, by omega, h5, h6, ?_⟩⟩
    rw [← h7, List.take_take]
    congr 1
    omega
theorem assert_int (x : Int) (w : World) : (Instr.typeAssert (.iface 3 (.int .i64 x)) 20 3 false).run Try.prog w = .ok (.int .i64 x) w := by kernel_rfl
set_option maxRecDepth 100000 in
theorem hpush_at (base hb x : Nat) (H : List Nat) (v : Value) (w : World) (HW : Hid (Wv w base hb v H)) (hl : H.length ≤ 1000) (hb2 : base ≤ w.heap.size) :
    Calls Try.prog 94 #[.pointer (some ⟨hb, 0, none⟩), .iface 3 (.int .i64 (x : Int))] w fun e w' => e = .returned (.tuple #[]) ∧ ∃ g c, Wv w' base hb (.slice (some ⟨g, 0, none⟩) (H.length + 1) c) (H ++ [x]) ∧ Ch w w' hb v (.slice (some ⟨g, 0, none⟩) (H.length + 1) c) := by
  obtain ⟨i0, hi, hz0, hz1, hz2⟩ := info_parts (show (Try.prog.info? 3).map (fun i => (i.zero, i.size, i.bytes)) = some (some (.int .i64 0), 1, 8) by kernel_rfl)
  have HI := Lib.hid hi
  have HZ0 := Lib.hid hz0
  have HZ1 := Lib.hid hz1
  have HZ2 := Lib.hid hz2
  clear hi hz0 hz1 hz2
  obtain ⟨k0, f0⟩ := HW.out.cell
  have HNE := Lib.hid (fun e : some hb = v.ownBlock => HW.out.ne e.symm)
  have HBX := Lib.hid HW.out.bx
  have hlt := HW.out.lt
  obtain ⟨n, hn⟩ : ∃ n, H.length = n := ⟨_, rfl⟩
  have HN := Lib.hid hn
  have HR := Lib.hid HW.out.rw
  rw [hn] at HR hl ⊢
  clear HW hn
  have q' := (Own.refl w).drew.alloc (.cells #[.int .i64 (x : Int)] 3)
  have HROW1 := Lib.hid (row_own HR.out q')
  have k2 := q'.cell k0
  have f2 := (q'.frozen (p := ⟨hb, 0, none⟩) hlt).trans f0
  have HBS := Lib.hid (Nat.le_trans hb2 q'.size)
  have HLT2 := Lib.hid (Nat.lt_of_lt_of_le hlt q'.size)
  have HQ := Lib.hid q'
  clear q'
  have ta := assert_int (x : Int)
  go_enter Try.func94, Try.ntmps94
  go_wp2_with fail
  go_region_law (refine step_append_lies _ (by rfl) _ _ _ (by rfl) base 3 i0 (.int .i64 0) 1 8 Try.underlying51 HI.out HZ0.out HZ1.out HZ2.out rfl (by omega) _ _ _ (by rfl) HROW1.out ⟨w.heap.size, 0, none⟩ 1 1 [.int .i64 (x : Int)] (by rfl) (by rfl) (World.news_of_block (cs := #[.int .i64 (x : Int)]) (t := 3) (fr := (0, 0)) (heap_alloc_new w.drew _)) (by simp [Value.oneCell']) (by omega) (by unfold maxLen; omega) (by omega) HBS.out _ rfl ?_; intro g gcap w4 hown hgr hat hlt4; have k4 := (hgr.cell_far ⟨hb, 0, none⟩ HLT2.out HNE.out).trans k2; have f4 := (hgr.frozen_far ⟨hb, 0, none⟩ HLT2.out HNE.out).trans f2; have HGR := Lib.hid hgr; have HOWN := Lib.hid hown; have HAT := Lib.hid hat; have HS4 := Lib.hid (Nat.lt_of_lt_of_le HLT2.out hgr.size); clear hown hat hlt4 hgr)
  all_goals
    go_end0
    exact ⟨rfl, push_done (HQ.out.trans (Own.refl _)) HGR.out HOWN.out HAT.out HBX.out HNE.out HN.out⟩
set_option maxRecDepth 100000 in
theorem hpop_at (base hb n g c : Nat) (H : List Nat) (w : World) (HW : Hid (Wv w base hb (.slice (some ⟨g, 0, none⟩) (n + 1) c) H)) (hl : H.length = n + 1) :
    Calls Try.prog 93 #[.pointer (some ⟨hb, 0, none⟩)] w fun e w' => e = .returned (.iface 3 (.int .i64 (hx H n : Int))) ∧ Wv w' base hb (.slice (some ⟨g, 0, none⟩) n c) (H.take n) ∧ Ch w w' hb (.slice (some ⟨g, 0, none⟩) (n + 1) c) (.slice (some ⟨g, 0, none⟩) n c) := by
  obtain ⟨k0, f0⟩ := HW.out.cell
  have hr := HW.out.rw
  rw [hl] at hr
  have hr : Rw w base g (n + 1) c H := hr
  obtain ⟨_, _, b1, b2⟩ := hr.bounds
  unfold maxLen at b2
  have c0 := (hr.at (i := n) (by omega)).1
  have HR := Lib.hid hr
  have HL := Lib.hid hl
  obtain ⟨x, hx⟩ : ∃ x, hx H n = x := ⟨_, rfl⟩
  rw [hx] at c0 ⊢
  clear hl hr hx
  go_enter Try.func93, Try.ntmps93
  go_wp2
  go_ret
  refine ⟨rfl, box_done (v := .slice (some ⟨g, 0, none⟩) (n + 1) c) HW.out.bx (fun e => HW.out.ne (by rw [e]; rfl)) ?_ (by rw [List.length_take, HL.out]; omega) ⟨rfl, rfl, Nat.le_refl _, fun _ _ _ _ => rfl, fun j hj => .inl hj⟩⟩
  have := row_less HR.out (m := n) (by omega)
  unfold ints cellsI at this ⊢
  rw [List.map_take, List.map_take]
  exact this
end Go.Proofs.Ytkdfmjhhdfiiiaa.HepW
