/-
  What the turns of the waiting nodes leave of other memory; the lists of all followers. Condition: none.
-/
import Derived.Test.YtkdfmjhhdfiiiaaGraphO
import Derived.Test.YtkdfmjhhdfiiiaaGraphPE
import Derived.Test.YtkdfmjhhdfiiiaaHeapC
import Derived.Test.YtkdfmjhhdfiiiaaConcat
namespace Go.Proofs.Ytkdfmjhhdfiiiaa.GraW
open Go.ChangeShapes Go.WideShapes Go.ChangeAt Go.RowKit
open PairW CelW GraP TabW HepP
open HepW (Gr Rw Wv Ch hv)
theorem ch_gr {a w w' : World} {hb : Nat} {v v' : Value} (h : Gr a w hb) (k : Ch w w' hb v v') (hv : ∀ b, v.ownBlock = some b → a.heap.size ≤ b) : Gr a w' hb :=
  ⟨k.os.trans h.os, k.output.trans h.output, Nat.le_trans h.size k.size, fun i hi hne => (k.block i (Nat.lt_of_lt_of_le hi h.size) hne fun e => by have := hv i e; omega).trans (h.block i hi hne)⟩
theorem ch_own {a w w' : World} {hb : Nat} {v v' : Value} (h : Own a w) (k : Ch w w' hb v v') (hb1 : a.heap.size ≤ hb) (hv : ∀ b, v.ownBlock = some b → a.heap.size ≤ b) : Own a w' :=
  ⟨k.os.trans h.os, k.output.trans h.output, Nat.le_trans h.size k.size, fun i hi => (k.block i (Nat.lt_of_lt_of_le hi h.size) (by omega) fun e => by have := hv i e; omega).trans (h.block i hi)⟩
theorem ch_row {w w' : World} {hb b n : Nat} {e : TypeId} {v v' x : Value} {xs : List Value} (h : w.ownsRow b e 1 x n xs) (k : Ch w w' hb v v') (h1 : x.ownBlock ≠ some hb) (h2 : x.ownBlock = none ∨ x.ownBlock ≠ v.ownBlock) : w'.ownsRow b e 1 x n xs :=
  row_stays h fun i hi => k.block i (h.lt i hi).2 (fun e => h1 (by rw [hi, e])) fun e => by
    rcases h2 with r | r
    · rw [hi] at r; cases r
    · exact r (by rw [hi, e])
theorem ch_apart {w w' : World} {hb b n : Nat} {e : TypeId} {v v' x : Value} {xs : List Value} (h : w.ownsRow b e 1 x n xs) (k : Ch w w' hb v v') (h2 : x.ownBlock = none ∨ x.ownBlock ≠ v.ownBlock) : x.ownBlock = none ∨ x.ownBlock ≠ v'.ownBlock := by
  cases hx : x.ownBlock with
  | none => exact .inl rfl
  | some i =>
    refine .inr fun e => ?_
    rcases k.lies i e.symm with r | r
    · rcases h2 with q | q
      · rw [hx] at q; cases q
      · exact q (by rw [hx, r])
    · have := (h.lt i hx).2
      omega
/-- A row of integers lies apart from the variable that holds the waiting nodes. -/
theorem row_box {w : World} {base hb b n : Nat} {v x : Value} {xs : List Value} {H : List Nat} (hw : Wv w base hb v H) (h : w.ownsRow b 3 1 x n xs) : x.ownBlock ≠ some hb := fun e => by
  rcases h.2 with ⟨h1, _⟩ | ⟨g, cap, cur, h1, _, h3, _⟩
  · rw [h1] at e; cases e
  · rw [h1] at e
    injection e with e
    have e : g = hb := e
    rw [e, hw.bx] at h3
    injection h3 with h3
    injection h3 with _ h3 _
    exact absurd h3 (by decide)
theorem wv_own {w w' : World} {base hb : Nat} {v : Value} {H : List Nat} (h : Wv w base hb v H) (q : Own w w') : Wv w' base hb v H := ⟨(q.block hb h.lt).trans h.bx, row_own h.rw q⟩
theorem wv_grown {w w' : World} {base hb : Nat} {v : Value} {H : List Nat} {row : Option Nat} (h : Wv w base hb v H) (hg : w.grownBy w' row) (h1 : row ≠ some hb) (h2 : v.ownBlock = none ∨ v.ownBlock ≠ row) : Wv w' base hb v H :=
  ⟨(hg.block hb h.lt fun e => h1 e.symm).trans h.bx, h.rw.kept hg h2⟩
theorem wv_set {w : World} {base hb g i : Nat} {v u : Value} {H : List Nat} (h : Wv w base hb v H) (h1 : g ≠ hb) (h2 : v.ownBlock ≠ some g) : Wv (w.setCell ⟨g, i, none⟩ u) base hb v H :=
  ⟨(HepW.set_other w g i u fun e => h1 e.symm).trans h.bx, ownsRow_setCell_other h.rw (a := ⟨g, i, none⟩) h2 u⟩
theorem wv_new (w : World) (base : Nat) : Wv (w.alloc (.cells #[.slice none 0 0] 51)) base w.heap.size (.slice none 0 0) [] := ⟨heap_alloc_new w _, World.ownsRow_nil _ _ _ _⟩
theorem rowF_flat (n : Nat) (l : List Ar) : (rowF n l).flatten = cellsI (ints (allF n l)) := by
  unfold rowF allF
  have h : ∀ L : List Nat, (L.map fun a => cellsI (ints (fol n l a))).flatten = cellsI (ints (L.flatMap (fol n l))) := fun L => by
    induction L with
    | nil => rfl
    | cons a L ih => rw [List.map_cons, List.flatten_cons, ih, List.flatMap_cons, ints_app, cellsI_app]
  exact h _
theorem allF_len (n : Nat) (l : List Ar) : (allF n l).length ≤ n * n := by
  unfold allF
  have h : ∀ L : List Nat, (L.flatMap (fol n l)).length ≤ L.length * n := fun L => by
    induction L with
    | nil => simp
    | cons a L ih =>
      rw [List.flatMap_cons, List.length_append, List.length_cons, Nat.succ_mul]
      have := fol_len n l a
      omega
  have := h (List.range n)
  rwa [List.length_range] at this
theorem rowF_one (n : Nat) (l : List Ar) : ∀ x ∈ rowF n l, ∀ u ∈ x, u.oneCell' = true := fun x hx u hu => by
  unfold rowF at hx
  obtain ⟨a, _, rfl⟩ := List.mem_map.1 hx
  exact cellsI_one _ u hu
theorem Ka.small {n : Nat} {l : List Ar} {out : List Nat} {M : List Int} {H : List Nat} (h : Ka n l out M H) : H.length ≤ n := nodup_le n H h.hn fun x hx => ((h.hm x).1 hx).1
theorem Kn.small {n c : Nat} {l : List Ar} {out T : List Nat} {M : List Int} {H : List Nat} (h : Kn n l out c T M H) : H.length ≤ n := nodup_le n H h.hn fun x hx => ((h.hm x).1 hx).1
theorem pall_at (n fl : Nat) (l : List Ar) (F : List Nat) (v : Value) (w : World) (HT : Hid (Cels w v (rowF n l))) (HF : Hid (allF n l = F)) (HL : Hid (F.length = fl)) (hn : n ≤ 64) :
    Calls Try.prog 33 #[v] w fun e w' => ∃ A c, e = .returned (.slice A fl c) ∧ w'.ownsRow w.heap.size 3 1 (.slice A fl c) fl (cellsI (ints F)) ∧ Own w w' := by
  have hfl := allF_len n l
  have hnn : n * n ≤ 64 * 64 := Nat.mul_le_mul hn hn
  refine (concatI_at (rowF n l) v n w HT (Lib.hid (rowF_one n l)) (Lib.hid (rowF_len n l)) (by omega) (by rw [rowF_flat, cellsI_len, ints_len]; omega)).mono ?_
  rintro e w' ⟨v', rfl, hr, q⟩
  rw [rowF_flat, HF.out, cellsI_len, ints_len, HL.out] at hr
  obtain ⟨A, c, rfl⟩ := rows_shape hr
  exact ⟨A, c, rfl, hr, q⟩
end Go.Proofs.Ytkdfmjhhdfiiiaa.GraW
