/-
  Slices of one-cell elements in memory, whatever is in the cells; a slice appended to a row of one's own. Nothing of the program. Condition: none.
-/
import Derived.Test.YtmjokgddhainlaaPairs
namespace Go.Proofs.Ytmjokgddhainlaa.CelW
open Go.ChangeShapes Go.WideShapes Go.ChangeAt Go.RowKit
open PairW
/-- The slice value v holds the cells xs. -/
def Cel (w : World) (v : Value) (xs : List Value) : Prop :=
  ∃ (A : Option Addr) (cap : Nat), v = .slice A xs.length cap ∧ xs.length ≤ cap ∧ cap ≤ maxLen ∧
    (0 < xs.length → ∃ b off : Nat, A = some ⟨b, off, none⟩ ∧ ∀ i u, xs[i]? = some u → w.cell? ⟨b, off + i, none⟩ = some u)
theorem Cel.own {w w' : World} {v : Value} {xs : List Value} (h : Cel w v xs) (hg : Own w w') : Cel w' v xs := by
  obtain ⟨A, cap, h1, h2, h3, h4⟩ := h
  refine ⟨A, cap, h1, h2, h3, fun h0 => ?_⟩
  obtain ⟨b, off, h5, h6⟩ := h4 h0
  exact ⟨b, off, h5, fun i u hu => hg.cell (h6 i u hu)⟩
theorem cel_nil (w : World) : Cel w (.slice none 0 0) [] := ⟨none, 0, rfl, Nat.le_refl _, Nat.zero_le _, fun h => absurd h (by simp)⟩
theorem cel_of_row {w : World} {base n : Nat} {e : TypeId} {v : Value} {xs : List Value} (h : w.ownsRow base e 1 v n xs) : Cel w v xs := by
  have hn : n = xs.length := by have := h.1; omega
  subst hn
  rcases h.2 with ⟨h1, h2⟩ | ⟨g, cap, cur, rfl, hb, hh, hn, hm, hs, ht⟩
  · obtain rfl := List.eq_nil_of_length_eq_zero h2
    rw [h1]
    exact cel_nil w
  · refine ⟨_, cap, rfl, hn, hm, fun _ => ⟨g, 0, rfl, fun i u hu => ?_⟩⟩
    rw [Nat.zero_add]
    exact (World.ownsRow.cellAt h i (by have := (List.getElem?_eq_some_iff.1 hu).1; omega)).trans hu
/-- The form of a slice (an arm of a walk opens no definition). -/
theorem cel_form {w : World} {v : Value} {xs : List Value} (h : Cel w v xs) : ∃ A cap, v = .slice A xs.length cap ∧ xs.length ≤ cap ∧ cap ≤ maxLen := by
  obtain ⟨A, cap, h1, h2, h3, _⟩ := h
  exact ⟨A, cap, h1, h2, h3⟩
theorem cel_open {w : World} {A : Option Addr} {n c : Nat} {xs : List Value} (h : Cel w (.slice A n c) xs) : xs.length = n ∧ (A = none → n = 0) ∧ ∀ ad, A = some ad → ∀ j u, xs[j]? = some u → w.cell? (ad.add j) = some u := by
  obtain ⟨A', c', hv, _, _, h4⟩ := h
  injection hv with e1 e2 e3
  subst e1
  subst e2
  refine ⟨rfl, fun hA => ?_, fun ad hA j u hu => ?_⟩
  · by_cases h0 : 0 < xs.length
    · obtain ⟨b, off, hb, _⟩ := h4 h0
      rw [hA] at hb
      cases hb
    · omega
  · have hj := (List.getElem?_eq_some_iff.1 hu).1
    obtain ⟨b, off, hb, hc⟩ := h4 (by omega)
    rw [hA] at hb
    injection hb with hb
    subst hb
    rw [Addr.add_lit]
    exact hc j u hu
/-- A slice appended to a row of one's own, at an operation that may be guarded. -/
theorem wpList_append_c {P : Program} {ops : Array Oper} {rest : List Oper} {o : Oper} {a : Act} {Q : Exit → Act → World → Prop} {w : World} (hw : Region.wanted o (yielded ops a.tmps) = true) (s x : Operand) (t : TypeId)
    (ho : o.op = .call { callee := .builtin .append, args := #[s, x], argTypes := #[t, t] })
    (base : Nat) (e : TypeId) (i : TypeInfo) (z : Value) (bytes : Nat) (ht : P.underlying t = some (.slice e)) (hi : P.info? e = some i) (hz : i.zero = some z) (hsize : i.size = 1) (hby : i.bytes = bytes) (hzs : z.cells.size = 1)
    (g n cap : Nat) (xs : List Value) (hs : a.eval s = .slice (some ⟨g, 0, none⟩) n cap) (hown : w.ownsRow base e 1 (.slice (some ⟨g, 0, none⟩) n cap) n xs)
    (v : Value) (news : List Value) (hx : a.eval x = v) (hv : Cel w v news) (h1 : ∀ u ∈ news, u.oneCell' = true)
    (k : Nat) (hk : n + news.length = k) (h63 : k ≤ maxLen) (hbytes : k * bytes ≤ 140737488355328) (hbase : base ≤ w.heap.size)
    (h : ∀ g' cap' w', w'.ownsRow base e 1 (.slice (some ⟨g', 0, none⟩) k cap') k (xs ++ news) → w.grownBy w' (some g) → wpList P ops Q rest (a.put o.dst (.slice (some ⟨g', 0, none⟩) k cap')) w') :
    wpList P ops Q (o :: rest) a w := by
  subst hk
  refine wpList_step fun K hK => ?_
  rw [if_pos hw]
  obtain ⟨A, c, rfl, _, _⟩ := cel_form hv
  obtain ⟨_, hA, hnews⟩ := cel_open hv
  cases A with
  | none =>
    have hm := hA rfl
    obtain rfl : news = [] := List.eq_nil_of_length_eq_zero hm
    have hcap : n ≤ cap := by
      rcases hown.2 with ⟨h, _⟩ | ⟨_, _, _, hv, _, _, hn, _⟩
      · cases h
      · injection hv with _ _ e3
        rw [e3]; exact hn
    have hr := run_append_empty_geo (P := P) w t o.type e i ht hi g n cap none c hcap
    unfold Oper.wp execOp
    simp only [ho, resolve, invoke, builtin, Sem.run_bind, Sem.run_pure, Result.andThen_ok, List.map_toArray, List.map_cons, List.map_nil, hs, hx, List.length_nil, hr]
    refine hK _ _ (h g cap w ?_ (World.grownBy.refl w _))
    rw [List.append_nil]
    exact hown
  | some ad =>
    refine wp_append_own w s x t ho base e i z 1 bytes ht hi hz hsize hby hzs (by omega) _ n xs hs hown ad news.length c news hx (by omega) (hnews ad rfl) h1 h63 hbytes hbase fun v' w' h2 h3 h4 => hK _ _ ?_
    rcases h2.2 with ⟨hv, _⟩ | ⟨g', cap', cur, rfl, hrest⟩
    · exact absurd (h4.1 hv).1 (by simp)
    · exact h g' cap' w' ⟨h2.1, .inr ⟨g', cap', cur, rfl, hrest⟩⟩ h3
theorem own_app {w w' : World} {o : Obj} (h : (w.alloc o).grownBy w' (some w.heap.size)) : Own w w' := Own.grown ((Own.refl w).alloc o) h fun k hk => by
  injection hk with hk
  exact Nat.le_of_eq hk
/-- Another append to a row of one's own. -/
theorem own_more {w wr wa w4 : World} {base g n cap : Nat} {e : TypeId} {xs : List Value} (hO : Own w wa) (h : wa.grownBy w4 (some g)) (hr : wr.ownsRow base e 1 (.slice (some ⟨g, 0, none⟩) n cap) n xs) (hb : w.heap.size ≤ base) : Own w w4 := hO.grown h fun k hk => by
  have := (hr.lt g rfl).1
  injection hk with hk
  omega
/-! ### Bytes and integers -/
def cellsU (b : List UInt8) : List Value := b.map fun c => Value.int .u8 (c.toNat : Int)
theorem cellsU_len (b : List UInt8) : (cellsU b).length = b.length := List.length_map ..
theorem cellsU_app (a b : List UInt8) : cellsU (a ++ b) = cellsU a ++ cellsU b := List.map_append
theorem cellsU_one (b : List UInt8) : ∀ u ∈ cellsU b, u.oneCell' = true := fun u hu => by
  obtain ⟨c, _, rfl⟩ := List.mem_map.1 hu
  rfl
theorem cellsU_at {b : List UInt8} {i : Nat} (h : i < b.length) : (cellsU b)[i]? = some (.int .u8 (b[i].toNat : Int)) := by
  unfold cellsU
  rw [List.getElem?_map, List.getElem?_eq_getElem h]
  rfl
theorem cel_byte {w : World} {T : TypeId} {z : Int} {c : UInt8} (h : (c.toNat : Int) = z) : Cel (w.alloc (.cells #[.int .u8 z] T)) (.slice (some ⟨w.heap.size, 0, none⟩) 1 1) (cellsU [c]) := by
  refine ⟨_, 1, rfl, Nat.le_refl _, by unfold maxLen; decide, fun _ => ⟨w.heap.size, 0, rfl, fun i u hu => ?_⟩⟩
  have hi : i < 1 := (List.getElem?_eq_some_iff.1 hu).1
  obtain rfl : i = 0 := by omega
  have hu : some (Value.int .u8 (c.toNat : Int)) = some u := hu
  rw [← hu, h]
  go_simp
end Go.Proofs.Ytmjokgddhainlaa.CelW
