/-
  The frame that the proofs of the statements about span share: a call that leaves old memory as it was leaves its arguments as they read; lists of spans, integers and what Free is asked, opened. Condition: none.
-/
import Derived.Test.YtggceakihapgiaaSpanA
import Derived.Deep.Strs
import Derived.Deep.Slices
import Derived.OpenShut
import Derived.Lib.SmallJoins
import Derived.RowKit3
import Derived.WideKeyArgs
import Derived.Deep.SlicePairs
import Derived.SizedLaws
namespace Go.Proofs.Ytggceakihapgiaa.SpaW
open Go.ChangeShapes Go.WideShapes Go.ChangeAt Go.RowKit Go.Joins
open PairW SpaP

theorem own_knob : ownKnob Try.prog.godebug = none := by kernel_rfl
theorem laid_out : laidOutB Try.prog = true := by kernel_rfl
theorem own_same {W W' : World} (h : Own W W') {p : MemPlace} (hp : p.block < W.heap.size) : W.sameAt W' p := by
  cases p with
  | cell b o => exact World.cell?_of_block (w := W) (h.block b hp)
  | map b => exact h.block b hp
theorem own_frame {W W' : World} (h : Own W W') (may : MemPlace → Prop) : W.keptBut W' may := by
  refine ⟨h.os, h.output, fun i hi => ?_⟩
  rw [h.block i hi]
  split <;> simp_all
section
variable {H : Type} {enc : TypeId × Value → H}
/-- What is read of the arguments is read again behind the call. -/
theorem args_stay {W W' : World} (hO : Own W W') {sp : Nat → Bool} : ∀ (ts : List TypeId) (vs : List Value) (ds : List (DataW H)) (ps : List MemPlace), (∀ t ∈ ts, Try.prog.readableRec t = true ∧ t < Try.prog.types.size) →
    DataW.TrodAll enc Try.prog W 0 (fun _ => true) true ts vs ds ps → (∀ p ∈ ps, p.block < W.heap.size ∧ sp p.block = true) → DataW.TrodAll enc Try.prog W' 0 sp true ts vs ds ps
  | [], [], [], _, _, h, _ => h
  | t :: ts, v :: vs, d :: ds, ps, ht, h, hp => by
    obtain ⟨p, q, h1, h2, rfl⟩ := h
    have h0 := ht t (List.mem_cons_self ..)
    exact ⟨p, q, WideElems.Trod_stays laid_out h0.1 h0.2 h1 (fun x hx => own_same hO (hp x (List.mem_append_left _ hx)).1) (fun x hx => (hp x (List.mem_append_left _ hx)).2),
      args_stay hO ts vs ds q (fun t h => ht t (List.mem_cons_of_mem _ h)) h2 (fun x hx => hp x (List.mem_append_right _ hx)), rfl⟩
  | [], _ :: _, _, _, _, h, _ => h.elim
  | [], [], _ :: _, _, _, h, _ => h.elim
  | _ :: _, [], _, _, _, h, _ => h.elim
  | _ :: _, _ :: _, [], _, _, h, _ => h.elim
/-- The end of a law's row: it returned true, and old memory is as it was. -/
theorem post_true {f : Func} {s : ChangeSpec} {W W' : World} {args : Array Value} {ds : List (DataW H)} {before : List MemPlace}
    (hW : DataW.Whole enc Try.prog f.params.toList s.vars false W args.toList ds [] before) (hvars : s.vars = []) (hfn : s.fn H ds = { results := [.lit (.bool true)], args := ds })
    (hts : ∀ t ∈ f.params.toList, Try.prog.readableRec t = true ∧ t < Try.prog.types.size) (hres : f.resultTypes = #[4]) (hO : Own W W') :
    s.post enc Try.prog f false true false false W args (.bool true) W' := by
  have hlt : ∀ p ∈ before, p.block < W.heap.size := fun p hp => hW.lt p hp
  have hW' := hW
  obtain ⟨p, q, hA, hV, rfl, hz, _⟩ := hW'
  rw [hvars] at hV
  obtain rfl : q = [] := hV
  rw [List.append_nil] at hlt hz
  have hA' : ∀ sp : Nat → Bool, (∀ x ∈ p, sp x.block = true) → DataW.TrodAll enc Try.prog W' 0 sp true f.params.toList args.toList ds p := fun sp hsp => args_stay hO _ _ _ _ hts hA (fun x hx => ⟨hlt x hx, hsp x hx⟩)
  have hr : ∀ (b : Nat) (sp : Nat → Bool) (hd : Bool), DataW.TrodAll enc Try.prog W' b sp hd f.resultTypes.toList ((Value.bool true).resultList f.resultTypes.size) [.lit (.bool true)] [] := fun b sp hd => by
    rw [hres]
    exact trodAll_cons_mk (shut_bool Try.underlying4 _) trodAll_mk0
  refine ⟨ds, [], p ++ [], [], p, [], hW, ?_, ?_, ?_, World.keptBut_mono (fun x hx => ⟨hx, ?_⟩) (own_frame hO (· ∈ p ++ [])), fun h => by cases h⟩
  · rw [List.append_nil, hfn]; exact hr _ _ _
  · rw [List.append_nil, hfn]; exact hA' _ (fun x hx => by simpa using hlt x hx)
  · rw [List.append_nil, hfn, hvars]; rfl
  · rw [List.append_nil] at hx; exact Or.inr (Or.inl hx)
end

/-! ### Arguments opened -/
theorem cells_int : Try.prog.cellsOf 3 = 1 := by kernel_rfl
theorem cells_sp : Try.prog.cellsOf 36 = 2 := by kernel_rfl
theorem bytes_sp : Try.prog.bytesOf 36 = 16 := by kernel_rfl
section
variable {H : Type} {enc : TypeId × Value → H} {W : World} {base fuel : Nat} {sp : Nat → Bool} {held : Bool} {cs : List Value} {x : DataW H × List MemPlace}
theorem trod_i (h : DataW.trod enc Try.prog W base sp held fuel 3 cs = some x) : ∃ a, cs = [.int .i64 a] := by
  obtain ⟨a, h1, _, _⟩ := DataW.trod_int Try.underlying3 h
  exact ⟨a, h1⟩
theorem cells_ask : Try.prog.cellsOf 41 = 3 := by kernel_rfl
theorem trod_ask (h : DataW.trod enc Try.prog W base sp held fuel 41 cs = some x) : ∃ a b c, cs = [.int .i64 a, .int .i64 b, .int .i64 c] := by
  obtain ⟨y0, y1, y2, n, _, hl, h0, h1, h2⟩ := Go.Deep.trod_struct3 Try.underlying41 h
  rw [cells_ask] at hl
  match cs, hl with
  | [c0, c1, c2], _ =>
    simp [cells_int] at h0 h1 h2
    obtain ⟨a, e0⟩ := trod_i h0
    obtain ⟨b, e1⟩ := trod_i h1
    obtain ⟨c, e2⟩ := trod_i h2
    simp at e0 e1 e2
    exact ⟨a, b, c, by rw [e0, e1, e2]⟩
end
section
variable {H : Type} {enc : TypeId × Value → H} {W : World} {r : Reach} {b0 : Nat} {v : Value} {d : DataW H} {p : List MemPlace}
theorem open_i (hv : Value.okWide Try.prog W r b0 3 v) : ∃ a, v = .int .i64 a := okWide_int Try.underlying3 hv
theorem open_ask (hv : Value.okWide Try.prog W r b0 41 v) (h : DataW.Trod enc Try.prog W 0 (fun _ => true) true 41 v d p) : ∃ a b c, v = .agg #[.int .i64 a, .int .i64 b, .int .i64 c] := by
  obtain ⟨cs, rfl, _⟩ := okWide_struct Try.underlying41 hv
  obtain ⟨n, h⟩ := h
  obtain ⟨a, b, c, e⟩ := trod_ask h
  exact ⟨a, b, c, by rw [show cs = #[.int .i64 a, .int .i64 b, .int .i64 c] from Array.toList_inj.1 e]⟩
theorem open_sps (hv : Value.okWide Try.prog W r b0 22 v) (h : DataW.Trod enc Try.prog W 0 (fun _ => true) true 22 v d p) :
    ∃ l, Pts W v l ∧ (l = [] ∨ ∃ elems spare, d = .slice elems spare ∧ elems.length = l.length) := by
  obtain ⟨A, len, cap, rfl⟩ := okWide_slice Try.underlying22 hv
  obtain ⟨n, h⟩ := h
  rcases Go.Deep.open_slice_pairs Try.underlying22 Try.underlying36 cells_sp rfl rfl cells_int cells_int h with ⟨hc, _⟩ | ⟨a, len', cap', m, k, V0, V1, D0, D1, P0, P1, hc, _, hl, hm, hmm, hx, hall⟩
  · refine ⟨[], ?_, .inl rfl⟩
    have : (Value.slice A len cap) = .slice none 0 0 := by simpa [Value.cells] using hc
    rw [this]
    exact pts_nil W
  · have e : (Value.slice A len cap) = .slice (some a) len' cap' := by simpa [Value.cells] using hc
    rw [e]
    simp only [if_true] at hmm
    subst hmm
    have hint : ∀ i, i < m → ∃ x y, V0 i = .int .i64 x ∧ V1 i = .int .i64 y := fun i hi => by
      obtain ⟨x, h1⟩ := trod_i (hall i hi).2.2.1
      obtain ⟨y, h2⟩ := trod_i (hall i hi).2.2.2
      simp at h1 h2
      exact ⟨x, y, h1, h2⟩
    refine ⟨(List.range len').map fun i => (match V0 i with | .int _ x => x | _ => 0, match V1 i with | .int _ y => y | _ => 0), ⟨some a, m, by simp, by simpa using hl, hm, fun h0 => ?_⟩, .inr ⟨_, _, congrArg Prod.fst hx, by simp⟩⟩
    simp at h0
    obtain ⟨b, off, spot⟩ := a
    have hspot : spot = none := by simpa [Addr.add] using World.cell?_spot (hall 0 (by omega)).1
    subst hspot
    refine ⟨b, off, rfl, fun i hi => ?_⟩
    simp at hi
    obtain ⟨x, y, e0, e1⟩ := hint i (by omega)
    have hc0 := (hall i (by omega)).1
    have hc1 := (hall i (by omega)).2.1
    rw [e0, Addr.add_lit] at hc0
    rw [e1, Addr.add_lit] at hc1
    have hat : at' ((List.range len').map fun i => ((match V0 i with | .int _ x => x | _ => 0 : Int), (match V1 i with | .int _ y => y | _ => 0 : Int))) i = (x, y) := by
      unfold at'
      rw [List.getD_eq_getElem?_getD, List.getElem?_map, List.getElem?_range hi]
      simp [e0, e1]
    rw [hat]
    exact ⟨hc0, by rw [Nat.add_assoc]; exact hc1⟩
end
/-- The form's reach bounds a list of spans. -/
theorem sized_sps {H : Type} {ts : List TypeId} {ds : List (DataW H)} {j : Nat} {d : DataW H} {l : List Sp} (h : (DataW.weightsEach Try.prog ts ds).all (· ≤ reachBytes) = true) (ht : ts[j]? = some 22) (hd : ds[j]? = some d)
    (hl : l = [] ∨ ∃ elems spare, d = .slice elems spare ∧ elems.length = l.length) : l.length * 16 ≤ 140737488351232 := by
  rcases hl with rfl | ⟨elems, spare, rfl, he⟩
  · simp
  · have := sized_slice h ht hd Try.underlying22
    rw [bytes_sp] at this
    have e : reachBytes = 140737488351232 := by decide
    rw [e] at this
    omega
theorem types_ok {ts : List TypeId} (h : ts.all (fun t => Try.prog.readableRec t && decide (t < Try.prog.types.size)) = true) : ∀ t ∈ ts, Try.prog.readableRec t = true ∧ t < Try.prog.types.size := fun t ht => by
  have := List.all_eq_true.1 h t ht
  rwa [Bool.and_eq_true, decide_eq_true_eq] at this
end Go.Proofs.Ytggceakihapgiaa.SpaW
