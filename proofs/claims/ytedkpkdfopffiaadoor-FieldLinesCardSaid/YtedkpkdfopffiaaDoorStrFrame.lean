/-
  The frame that the proofs of statements over texts share: a call that leaves old memory as it was leaves its arguments as they read; texts, lists of texts and integers, opened. Condition: none.
-/
import Derived.Test.YtedkpkdfopffiaaDoorRows
import Derived.Test.YtedkpkdfopffiaaDoorStrs
import Derived.Test.YtedkpkdfopffiaaDoorIdentA
import Derived.Deep.Strs
import Derived.Deep.Slices
import Derived.OpenShut
import Derived.Lib.SmallJoins
import Derived.RowKit3
import Derived.WideKeyArgs
namespace Go.Proofs.YtedkpkdfopffiaaDoor.NamW
open Go.ChangeShapes Go.WideShapes Go.ChangeAt Go.RowKit Go.Joins
open PairW NamP StrW

theorem own_knob : ownKnob Tryd.prog.godebug = none := by kernel_rfl
theorem laid_out : laidOutB Tryd.prog = true := by kernel_rfl
theorem own_same {W W' : World} (h : Own W W') {p : MemPlace} (hp : p.block < W.heap.size) : W.sameAt W' p := by
  cases p with
  | cell b o => exact World.cell?_of_block (w := W) (h.block b hp)
  | map b => exact h.block b hp
theorem own_frame {W W' : World} (h : Own W W') (may : MemPlace → Prop) : W.keptBut W' may := by
  refine ⟨h.os, h.output, fun i hi => ?_⟩
  rw [h.block i hi]
  split <;> simp_all
section
variable {H : Type} {enc : TypeId × Value → H}
/-- What is read of the arguments is read again behind the call. -/
theorem args_stay {W W' : World} (hO : Own W W') {sp : Nat → Bool} : ∀ (ts : List TypeId) (vs : List Value) (ds : List (DataW H)) (ps : List MemPlace), (∀ t ∈ ts, Tryd.prog.readableRec t = true ∧ t < Tryd.prog.types.size) →
    DataW.TrodAll enc Tryd.prog W 0 (fun _ => true) true ts vs ds ps → (∀ p ∈ ps, p.block < W.heap.size ∧ sp p.block = true) → DataW.TrodAll enc Tryd.prog W' 0 sp true ts vs ds ps
  | [], [], [], _, _, h, _ => h
  | t :: ts, v :: vs, d :: ds, ps, ht, h, hp => by
    obtain ⟨p, q, h1, h2, rfl⟩ := h
    have h0 := ht t (List.mem_cons_self ..)
    exact ⟨p, q, WideElems.Trod_stays laid_out h0.1 h0.2 h1 (fun x hx => own_same hO (hp x (List.mem_append_left _ hx)).1) (fun x hx => (hp x (List.mem_append_left _ hx)).2),
      args_stay hO ts vs ds q (fun t h => ht t (List.mem_cons_of_mem _ h)) h2 (fun x hx => hp x (List.mem_append_right _ hx)), rfl⟩
  | [], _ :: _, _, _, _, h, _ => h.elim
  | [], [], _ :: _, _, _, h, _ => h.elim
  | _ :: _, [], _, _, _, h, _ => h.elim
  | _ :: _, _ :: _, [], _, _, h, _ => h.elim
/-- The end of a law's row: it returned true, and old memory is as it was. -/
theorem post_true {f : Func} {s : ChangeSpec} {W W' : World} {args : Array Value} {ds : List (DataW H)} {before : List MemPlace}
    (hW : DataW.Whole enc Tryd.prog f.params.toList s.vars false W args.toList ds [] before) (hvars : s.vars = []) (hfn : s.fn H ds = { results := [.lit (.bool true)], args := ds })
    (hts : ∀ t ∈ f.params.toList, Tryd.prog.readableRec t = true ∧ t < Tryd.prog.types.size) (hres : f.resultTypes = #[4]) (hO : Own W W') :
    s.post enc Tryd.prog f false true false false W args (.bool true) W' := by
  have hlt : ∀ p ∈ before, p.block < W.heap.size := fun p hp => hW.lt p hp
  have hW' := hW
  obtain ⟨p, q, hA, hV, rfl, hz, _⟩ := hW'
  rw [hvars] at hV
  obtain rfl : q = [] := hV
  rw [List.append_nil] at hlt hz
  have hA' : ∀ sp : Nat → Bool, (∀ x ∈ p, sp x.block = true) → DataW.TrodAll enc Tryd.prog W' 0 sp true f.params.toList args.toList ds p := fun sp hsp => args_stay hO _ _ _ _ hts hA (fun x hx => ⟨hlt x hx, hsp x hx⟩)
  have hr : ∀ (b : Nat) (sp : Nat → Bool) (hd : Bool), DataW.TrodAll enc Tryd.prog W' b sp hd f.resultTypes.toList ((Value.bool true).resultList f.resultTypes.size) [.lit (.bool true)] [] := fun b sp hd => by
    rw [hres]
    exact trodAll_cons_mk (shut_bool Tryd.underlying4 _) trodAll_mk0
  refine ⟨ds, [], p ++ [], [], p, [], hW, ?_, ?_, ?_, World.keptBut_mono (fun x hx => ⟨hx, ?_⟩) (own_frame hO (· ∈ p ++ [])), fun h => by cases h⟩
  · rw [List.append_nil, hfn]; exact hr _ _ _
  · rw [List.append_nil, hfn]; exact hA' _ (fun x hx => by simpa using hlt x hx)
  · rw [List.append_nil, hfn, hvars]; rfl
  · rw [List.append_nil] at hx; exact Or.inr (Or.inl hx)
end

/-! ### Arguments opened -/
theorem cells_string : Tryd.prog.cellsOf 9 = 1 := by kernel_rfl
section
variable {H : Type} {enc : TypeId × Value → H} {W : World} {r : Reach} {b0 : Nat} {v : Value} {d : DataW H} {p : List MemPlace}
set_option maxRecDepth 100000 in
theorem open_i (hv : Value.okWide Tryd.prog W r b0 3 v) : ∃ a, v = .int .i64 a := okWide_int Tryd.underlying3 hv
set_option maxRecDepth 100000 in
theorem open_s (hv : Value.okWide Tryd.prog W r b0 9 v) (h : DataW.Trod enc Tryd.prog W 0 (fun _ => true) true 9 v d p) : ∃ s, v = .string s ∧ s.size ≤ maxLen := by
  obtain ⟨s, rfl⟩ := okWide_string Tryd.underlying9 hv
  obtain ⟨n, h⟩ := h
  obtain ⟨s', h1, _, h3⟩ := DataW.trod_string Tryd.underlying9 h
  have e : s = s' := by simpa [Value.cells] using h1
  exact ⟨s, rfl, by rw [e]; exact h3⟩
set_option maxRecDepth 100000 in
theorem open_ss (hv : Value.okWide Tryd.prog W r b0 22 v) (h : DataW.Trod enc Tryd.prog W 0 (fun _ => true) true 22 v d p) :
    ∃ l, Strs W v l ∧ Short l := by
  obtain ⟨A, len, cap, rfl⟩ := okWide_slice Tryd.underlying22 hv
  obtain ⟨n, h⟩ := h
  rcases Go.Deep.open_strs Tryd.underlying22 Tryd.underlying9 cells_string h with ⟨hc, _⟩ | ⟨a, len', cap', m, Sx, hc, _, hl, hm, hmm, hx, hall⟩
  · refine ⟨[], ?_, fun s hs => by cases hs⟩
    have : (Value.slice A len cap) = .slice none 0 0 := by simpa [Value.cells] using hc
    rw [this]
    exact strs_nil W
  · have e : (Value.slice A len cap) = .slice (some a) len' cap' := by simpa [Value.cells] using hc
    rw [e]
    simp only [if_true] at hmm
    subst hmm
    have hat : ∀ i, i < len' → atS ((List.range len').map Sx) i = Sx i := fun i hi => by
      unfold atS
      rw [List.getD_eq_getElem?_getD, List.getElem?_map, List.getElem?_range hi]
      rfl
    refine ⟨(List.range len').map Sx, ⟨some a, m, by simp, by simpa using hl, hm, fun h0 => ?_⟩, fun s hs => ?_⟩
    · simp at h0
      obtain ⟨b, off, spot⟩ := a
      have hspot : spot = none := by simpa [Addr.add] using World.cell?_spot (hall 0 (by omega)).1
      subst hspot
      refine ⟨b, off, rfl, fun i hi => ?_⟩
      simp at hi
      have hc0 := (hall i (by omega)).1
      rw [Addr.add_lit] at hc0
      rw [hat i hi]
      exact hc0
    · obtain ⟨i, hi, rfl⟩ := List.mem_map.1 hs
      have := List.mem_range.1 hi
      exact (hall i (by omega)).2
end
theorem types_ok {ts : List TypeId} (h : ts.all (fun t => Tryd.prog.readableRec t && decide (t < Tryd.prog.types.size)) = true) : ∀ t ∈ ts, Tryd.prog.readableRec t = true ∧ t < Tryd.prog.types.size := fun t ht => by
  have := List.all_eq_true.1 h t ht
  rwa [Bool.and_eq_true, decide_eq_true_eq] at this
end Go.Proofs.YtedkpkdfopffiaaDoor.NamW
