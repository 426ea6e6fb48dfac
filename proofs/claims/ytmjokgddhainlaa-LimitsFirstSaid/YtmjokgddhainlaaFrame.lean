/-
  The frame that the proofs of statements share: a call that leaves old memory as it was leaves its arguments as they read; integers, texts, lists of bytes and of integers, opened; what the bound of the second form gives. Condition: none.
-/
import Derived.Test.YtmjokgddhainlaaRows
import Derived.Test.YtmjokgddhainlaaCells
import Derived.Deep.Strs
import Derived.Deep.Slices
import Derived.OpenShut
import Derived.Lib.SmallJoins
import Derived.RowKit3
import Derived.WideKeyArgs
import Derived.SizedLaws
import Derived.JoinedCond
namespace Go.Proofs.Ytmjokgddhainlaa.FrmW
open Go.ChangeShapes Go.WideShapes Go.ChangeAt Go.RowKit Go.Joins
open PairW CelW

theorem own_knob : ownKnob Try.prog.godebug = none := by kernel_rfl
theorem laid_out : laidOutB Try.prog = true := by kernel_rfl
theorem own_same {W W' : World} (h : Own W W') {p : MemPlace} (hp : p.block < W.heap.size) : W.sameAt W' p := by
  cases p with
  | cell b o => exact World.cell?_of_block (w := W) (h.block b hp)
  | map b => exact h.block b hp
theorem own_frame {W W' : World} (h : Own W W') (may : MemPlace → Prop) : W.keptBut W' may := by
  refine ⟨h.os, h.output, fun i hi => ?_⟩
  rw [h.block i hi]
  split <;> simp_all
section
variable {H : Type} {enc : TypeId × Value → H}
/-- What is read of the arguments is read again behind the call. -/
theorem args_stay {W W' : World} (hO : Own W W') {sp : Nat → Bool} : ∀ (ts : List TypeId) (vs : List Value) (ds : List (DataW H)) (ps : List MemPlace), (∀ t ∈ ts, Try.prog.readableRec t = true ∧ t < Try.prog.types.size) →
    DataW.TrodAll enc Try.prog W 0 (fun _ => true) true ts vs ds ps → (∀ p ∈ ps, p.block < W.heap.size ∧ sp p.block = true) → DataW.TrodAll enc Try.prog W' 0 sp true ts vs ds ps
  | [], [], [], _, _, h, _ => h
  | t :: ts, v :: vs, d :: ds, ps, ht, h, hp => by
    obtain ⟨p, q, h1, h2, rfl⟩ := h
    have h0 := ht t (List.mem_cons_self ..)
    exact ⟨p, q, WideElems.Trod_stays laid_out h0.1 h0.2 h1 (fun x hx => own_same hO (hp x (List.mem_append_left _ hx)).1) (fun x hx => (hp x (List.mem_append_left _ hx)).2),
      args_stay hO ts vs ds q (fun t h => ht t (List.mem_cons_of_mem _ h)) h2 (fun x hx => hp x (List.mem_append_right _ hx)), rfl⟩
  | [], _ :: _, _, _, _, h, _ => h.elim
  | [], [], _ :: _, _, _, h, _ => h.elim
  | _ :: _, [], _, _, _, h, _ => h.elim
  | _ :: _, _ :: _, [], _, _, h, _ => h.elim
/-- The end of a law's row: it returned true, and old memory is as it was. -/
theorem post_true {f : Func} {s : ChangeSpec} {W W' : World} {args : Array Value} {ds : List (DataW H)} {before : List MemPlace}
    (hW : DataW.Whole enc Try.prog f.params.toList s.vars false W args.toList ds [] before) (hvars : s.vars = []) (hfn : s.fn H ds = { results := [.lit (.bool true)], args := ds })
    (hts : ∀ t ∈ f.params.toList, Try.prog.readableRec t = true ∧ t < Try.prog.types.size) (hres : f.resultTypes = #[4]) (hO : Own W W') :
    s.post enc Try.prog f false true false false W args (.bool true) W' := by
  have hlt : ∀ p ∈ before, p.block < W.heap.size := fun p hp => hW.lt p hp
  have hW' := hW
  obtain ⟨p, q, hA, hV, rfl, hz, _⟩ := hW'
  rw [hvars] at hV
  obtain rfl : q = [] := hV
  rw [List.append_nil] at hlt hz
  have hA' : ∀ sp : Nat → Bool, (∀ x ∈ p, sp x.block = true) → DataW.TrodAll enc Try.prog W' 0 sp true f.params.toList args.toList ds p := fun sp hsp => args_stay hO _ _ _ _ hts hA (fun x hx => ⟨hlt x hx, hsp x hx⟩)
  have hr : ∀ (b : Nat) (sp : Nat → Bool) (hd : Bool), DataW.TrodAll enc Try.prog W' b sp hd f.resultTypes.toList ((Value.bool true).resultList f.resultTypes.size) [.lit (.bool true)] [] := fun b sp hd => by
    rw [hres]
    exact trodAll_cons_mk (shut_bool Try.underlying4 _) trodAll_mk0
  refine ⟨ds, [], p ++ [], [], p, [], hW, ?_, ?_, ?_, World.keptBut_mono (fun x hx => ⟨hx, ?_⟩) (own_frame hO (· ∈ p ++ [])), fun h => by cases h⟩
  · rw [List.append_nil, hfn]; exact hr _ _ _
  · rw [List.append_nil, hfn]; exact hA' _ (fun x hx => by simpa using hlt x hx)
  · rw [List.append_nil, hfn, hvars]; rfl
  · rw [List.append_nil] at hx; exact Or.inr (Or.inl hx)
end
theorem types_ok {ts : List TypeId} (h : ts.all (fun t => Try.prog.readableRec t && decide (t < Try.prog.types.size)) = true) : ∀ t ∈ ts, Try.prog.readableRec t = true ∧ t < Try.prog.types.size := fun t ht => by
  have := List.all_eq_true.1 h t ht
  rwa [Bool.and_eq_true, decide_eq_true_eq] at this

/-! ### How long what is read is -/
/-- The datum is a slice of n elements, or n is nought. -/
def Len {H : Type} (d : DataW H) (n : Nat) : Prop := n = 0 ∨ ∃ elems spare, d = .slice elems spare ∧ elems.length = n
theorem bulk_one {H : Type} (d : DataW H) : 1 ≤ Rows.uptoBulk d := by
  cases d with
  | lit l => cases l <;> simp [Rows.uptoBulk]
  | nil => simp [Rows.uptoBulk]
  | ptr d => simp [Rows.uptoBulk]
  | slice elems spare => simp [Rows.uptoBulk]
  | agg parts => simp [Rows.uptoBulk]
  | iface t d => simp [Rows.uptoBulk]
  | map entries => simp [Rows.uptoBulk]
  | held h => simp [Rows.uptoBulk]
theorem bulk_part {H : Type} {d : DataW H} {l : List (DataW H)} (h : d ∈ l) : Rows.uptoBulk d ≤ Rows.uptoBulkAll l := by
  induction l with
  | nil => cases h
  | cons x r ih =>
    simp only [Rows.uptoBulkAll]
    cases List.mem_cons.1 h with
    | inl e => subst e; omega
    | inr e => have := ih e; omega
theorem bulk_length {H : Type} (l : List (DataW H)) : l.length ≤ Rows.uptoBulkAll l := by
  induction l with
  | nil => simp [Rows.uptoBulkAll]
  | cons x r ih => have := bulk_one x; simp only [Rows.uptoBulkAll, List.length_cons]; omega
theorem Len.bulk {H : Type} {d : DataW H} {n : Nat} (h : Len d n) : n ≤ Rows.uptoBulk d := by
  rcases h with rfl | ⟨elems, spare, rfl, rfl⟩
  · exact Nat.zero_le _
  · have h1 := bulk_length elems
    simp only [Rows.uptoBulk]
    omega
theorem bulk_text {H : Type} {d : DataW H} {s : ByteArray} (h : d = .lit (.string s.data.toList)) : s.size ≤ Rows.uptoBulk d := by
  subst h
  have e : s.data.toList.length = s.size := by rw [Array.length_toList]; rfl
  simp only [Rows.uptoBulk]
  omega
theorem bulk_in {H : Type} {ds : List (DataW H)} {j : Nat} {d : DataW H} {n : Nat} (hk : Rows.uptoSmall H ds = true) (hd : ds[j]? = some d) (h : n ≤ Rows.uptoBulk d) : n ≤ 1048576 := by
  have hm := bulk_part (List.mem_of_getElem? hd)
  have hb : Rows.uptoBulkAll ds ≤ 1048576 := of_decide_eq_true hk
  omega
theorem bulk_agg {H : Type} {parts : List (DataW H)} {j : Nat} {d : DataW H} {n : Nat} (hd : parts[j]? = some d) (h : n ≤ Rows.uptoBulk d) : n ≤ Rows.uptoBulk (.agg parts) := by
  have hm := bulk_part (List.mem_of_getElem? hd)
  simp only [Rows.uptoBulk]
  omega
theorem Len.sized {H : Type} {ts : List TypeId} {ds : List (DataW H)} {j : Nat} {t e : TypeId} {d : DataW H} {n : Nat} (h : (DataW.weightsEach Try.prog ts ds).all (· ≤ reachBytes) = true) (ht : ts[j]? = some t) (hd : ds[j]? = some d)
    (hu : Try.prog.underlying t = some (.slice e)) (hl : Len d n) : n * Try.prog.bytesOf e ≤ 140737488351232 := by
  rcases hl with rfl | ⟨elems, spare, rfl, rfl⟩
  · rw [Nat.zero_mul]; exact Nat.zero_le _
  · have h1 := sized_slice h ht hd hu
    have h2 : reachBytes = 140737488351232 := by decide
    have h3 := Nat.mul_le_mul_right (Try.prog.bytesOf e) (Nat.le_add_right elems.length spare.length)
    omega

/-! ### Arguments opened -/
section
variable {H : Type} {enc : TypeId × Value → H} {W : World} {base fuel : Nat} {sp : Nat → Bool} {held : Bool} {cs : List Value} {x : DataW H × List MemPlace}
theorem cells_int : Try.prog.cellsOf 3 = 1 := by kernel_rfl
set_option maxRecDepth 100000 in
theorem trod_i (h : DataW.trod enc Try.prog W base sp held fuel 3 cs = some x) : ∃ a, cs = [.int .i64 a] ∧ -9223372036854775808 ≤ a ∧ a ≤ 9223372036854775807 := by
  obtain ⟨a, h1, _, h2⟩ := DataW.trod_int Try.underlying3 h
  exact ⟨a, h1, bounds_i64 (by simpa using h2)⟩
theorem cells_string : Try.prog.cellsOf 9 = 1 := by kernel_rfl
set_option maxRecDepth 100000 in
theorem trod_s (h : DataW.trod enc Try.prog W base sp held fuel 9 cs = some x) : ∃ s, cs = [.string s] ∧ s.size ≤ maxLen ∧ x.1 = .lit (.string s.data.toList) := by
  obtain ⟨s, h1, h2, h3⟩ := DataW.trod_string Try.underlying9 h
  exact ⟨s, h1, h3, by rw [h2]⟩
set_option maxRecDepth 100000 in
theorem trod_l (h : DataW.trod enc Try.prog W 0 (fun _ => true) held fuel 50 cs = some x) : ∃ (v : Value) (l : List Int), cs = [v] ∧ Cel W v (l.map (Value.int .i64)) ∧ (∀ a ∈ l, -9223372036854775808 ≤ a ∧ a ≤ 9223372036854775807) ∧ Len x.1 l.length := by
  rcases open_ints Try.underlying50 Try.underlying3 cells_int h with ⟨rfl, _⟩ | ⟨a, len, cap, zs, rfl, _, hl, hm, hz, hx, hc, hw⟩
  · exact ⟨_, [], rfl, cel_nil W, fun a h => absurd h (by simp), .inl rfl⟩
  · simp only [if_true] at hz
    have hlen : (zs.take len).length = len := by rw [List.length_take]; omega
    refine ⟨_, zs.take len, rfl, ⟨some a, cap, by rw [List.length_map, hlen], by rw [List.length_map, hlen]; exact hl, hm, fun h0 => ?_⟩, fun y hy => bounds_i64 (hw y (List.mem_of_mem_take hy)), .inr ⟨_, _, by rw [hx], by simp [lits]⟩⟩
    rw [List.length_map, hlen] at h0
    obtain ⟨b, off, spot⟩ := a
    have hspot : spot = none := by simpa [Addr.add] using World.cell?_spot (hc 0 (by omega))
    subst hspot
    refine ⟨b, off, rfl, fun i u hu => ?_⟩
    have hi : i < len := by have := (List.getElem?_eq_some_iff.1 hu).1; rwa [List.length_map, hlen] at this
    have h1 := hc i (by omega)
    rw [Addr.add_lit] at h1
    rw [h1, ← hu, List.getElem?_map, List.getElem?_take_of_lt hi, List.getD_eq_getElem?_getD, List.getElem?_eq_getElem (by omega)]
    rfl
end
section
variable {H : Type} {enc : TypeId × Value → H} {W : World} {r : Reach} {b0 : Nat} {v : Value} {d : DataW H} {p : List MemPlace}
set_option maxRecDepth 100000 in
theorem open_i (hv : Value.okWide Try.prog W r b0 3 v) (h : DataW.Trod enc Try.prog W 0 (fun _ => true) true 3 v d p) : ∃ a, v = .int .i64 a ∧ -9223372036854775808 ≤ a ∧ a ≤ 9223372036854775807 := by
  obtain ⟨a, rfl⟩ := okWide_int Try.underlying3 hv
  obtain ⟨n, h⟩ := h
  obtain ⟨a', h1, h2⟩ := trod_i h
  have e : a = a' := by simpa [Value.cells] using h1
  exact ⟨a, rfl, by rw [e]; exact h2⟩
set_option maxRecDepth 100000 in
theorem open_s (hv : Value.okWide Try.prog W r b0 9 v) (h : DataW.Trod enc Try.prog W 0 (fun _ => true) true 9 v d p) : ∃ s, v = .string s ∧ s.size ≤ maxLen ∧ d = .lit (.string s.data.toList) := by
  obtain ⟨s, rfl⟩ := okWide_string Try.underlying9 hv
  obtain ⟨n, h⟩ := h
  obtain ⟨s', h1, h2, h3⟩ := trod_s h
  have e : s = s' := by simpa [Value.cells] using h1
  exact ⟨s, rfl, by rw [e]; exact h2, by rw [e]; exact h3⟩
set_option maxRecDepth 100000 in
theorem open_l (hv : Value.okWide Try.prog W r b0 50 v) (h : DataW.Trod enc Try.prog W 0 (fun _ => true) true 50 v d p) : ∃ l : List Int, Cel W v (l.map (Value.int .i64)) ∧ (∀ a ∈ l, -9223372036854775808 ≤ a ∧ a ≤ 9223372036854775807) ∧ Len d l.length := by
  obtain ⟨A, len, cap, rfl⟩ := okWide_slice Try.underlying50 hv
  obtain ⟨n, h⟩ := h
  obtain ⟨v', l, h1, h2, h3, h4⟩ := trod_l h
  have e : Value.slice A len cap = v' := by simpa [Value.cells] using h1
  exact ⟨l, by rw [e]; exact h2, h3, h4⟩
end
end Go.Proofs.Ytmjokgddhainlaa.FrmW
