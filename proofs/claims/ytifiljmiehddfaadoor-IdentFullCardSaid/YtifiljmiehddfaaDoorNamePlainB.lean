/-
  Lists of names, sorted: insertion from the end, and that a list has one ascending order. Nothing of the program. Condition: none.
-/
import Derived.Test.YtifiljmiehddfaaDoorNamePlain
import Derived.Test.YtifiljmiehddfaaDoorStrs
namespace Go.Proofs.YtifiljmiehddfaaDoor.NamP
open StrW
def lessS (x y : ByteArray) : Bool := lessB x.data.toList y.data.toList
def vldS (x : ByteArray) : Bool := vldB x.data.toList
theorem lessS_total {a b : ByteArray} (ha : vldS a = true) (hb : vldS b = true) (h : a ≠ b) : lessS b a = !lessS a b := less_total ha hb fun e => h (Go.WideShapes.bytes_inj e)
theorem lessS_trans {a b c : ByteArray} (h : lessS a b = true) (k : lessS b c = true) : lessS a c = true := less_trans h k
theorem lessS_irrefl (a : ByteArray) : lessS a a = false := less_irrefl _
theorem lessS_asymm {a b : ByteArray} (h : lessS a b = true) : lessS b a = false := less_asymm h
/-- One more name, behind the last one that it is not before. -/
def insS (x : ByteArray) : Ss → Ss
  | [] => [x]
  | y :: r => if (y :: r).all (lessS x) = true then x :: y :: r else y :: insS x r
theorem ins_at {x : ByteArray} : ∀ {o : Ss} {k : Nat}, k ≤ o.length → (∀ j, k ≤ j → j < o.length → lessS x (atS o j) = true) → (k = 0 ∨ lessS x (atS o (k - 1)) = false) → insS x o = o.take k ++ x :: o.drop k
  | [], k, hk, _, _ => by
    have : k = 0 := by simpa using hk
    subst this
    rfl
  | y :: r, 0, _, h, _ => by
    unfold insS
    rw [if_pos]
    · rfl
    · refine List.all_eq_true.2 fun z hz => ?_
      obtain ⟨i, hi, e⟩ := List.mem_iff_getElem.1 hz
      have := h i (Nat.zero_le _) hi
      rw [atS_get hi, e] at this
      exact this
  | y :: r, k + 1, hk, h, h1 => by
    unfold insS
    have h1 : lessS x (atS (y :: r) k) = false := by
      rcases h1 with h1 | h1
      · omega
      · exact h1
    have hkl : k < (y :: r).length := by simp at hk ⊢; omega
    rw [if_neg]
    · rw [ins_at (o := r) (k := k) (by simpa using hk) (fun j a b => h (j + 1) (by omega) (by simp; omega)) (by
        cases k with
        | zero => exact .inl rfl
        | succ k => exact .inr h1)]
      rfl
    · intro e
      have := List.all_eq_true.1 e _ (atS_mem hkl)
      rw [h1] at this
      cases this
def sortS (l : Ss) : Ss := l.foldl (fun o x => insS x o) []
theorem ins_perm (x : ByteArray) : ∀ o : Ss, (insS x o).Perm (x :: o)
  | [] => List.Perm.refl _
  | y :: r => by
    unfold insS
    split
    · exact List.Perm.refl _
    · exact ((ins_perm x r).cons y).trans (List.Perm.swap x y r)
theorem ins_len (x : ByteArray) (o : Ss) : (insS x o).length = o.length + 1 := (ins_perm x o).length_eq
theorem sort_go : ∀ (l o : Ss), (l.foldl (fun o x => insS x o) o).Perm (l ++ o)
  | [], o => List.Perm.refl _
  | x :: l, o => by
    show (l.foldl _ (insS x o)).Perm _
    exact ((sort_go l (insS x o)).trans ((ins_perm x o).append_left l)).trans List.perm_middle
theorem sort_perm (l : Ss) : (sortS l).Perm l := by
  have := sort_go l []
  rw [List.append_nil] at this
  exact this
theorem sort_len (l : Ss) : (sortS l).length = l.length := (sort_perm l).length_eq
theorem sort_snoc (l : Ss) (x : ByteArray) : sortS (l ++ [x]) = insS x (sortS l) := by unfold sortS; rw [List.foldl_append]; rfl
/-- Ascending, each before each later one. -/
def Asc (l : Ss) : Prop := l.Pairwise fun a b => lessS a b = true
theorem ins_asc {x : ByteArray} (hx : vldS x = true) : ∀ {o : Ss}, Asc o → (∀ y ∈ o, vldS y = true ∧ y ≠ x) → Asc (insS x o)
  | [], _, _ => by unfold insS Asc; exact List.pairwise_singleton _ _
  | y :: r, h, hv => by
    unfold insS
    obtain ⟨h1, h2⟩ := List.pairwise_cons.1 h
    by_cases c : (y :: r).all (lessS x) = true
    · rw [if_pos c]
      exact List.pairwise_cons.2 ⟨fun z hz => List.all_eq_true.1 c z hz, h⟩
    · rw [if_neg c]
      have : ∃ z ∈ y :: r, lessS x z = false := Classical.byContradiction fun k => c (List.all_eq_true.2 fun z hz => by
        cases e : lessS x z with
        | true => rfl
        | false => exact absurd ⟨z, hz, e⟩ k)
      obtain ⟨z, hz, hzx⟩ := this
      have hz2 : lessS z x = true := by rw [lessS_total hx (hv z hz).1 (fun e => (hv z hz).2 e.symm), hzx]; rfl
      have hyx : lessS y x = true := by
        rcases List.mem_cons.1 hz with rfl | hz
        · exact hz2
        · exact lessS_trans (h1 z hz) hz2
      refine List.pairwise_cons.2 ⟨fun t ht => ?_, ins_asc hx h2 fun t ht => hv t (List.mem_cons_of_mem _ ht)⟩
      rcases List.mem_cons.1 ((ins_perm x r).mem_iff.1 ht) with rfl | ht
      · exact hyx
      · exact h1 t ht
theorem sort_asc_go : ∀ {l o : Ss}, Asc o → (∀ y ∈ l ++ o, vldS y = true) → l.Nodup → (∀ y ∈ l, y ∉ o) → Asc (l.foldl (fun o x => insS x o) o)
  | [], _, h, _, _, _ => h
  | x :: l, o, h, hv, hd, hn => by
    obtain ⟨d1, d2⟩ := List.nodup_cons.1 hd
    refine sort_asc_go (l := l) (o := insS x o) (ins_asc (hv x (by simp)) h fun y hy => ⟨hv y (by simp [hy]), fun e => hn x (List.mem_cons_self ..) (e ▸ hy)⟩) (fun y hy => ?_) d2 (fun y hy k => ?_)
    · rcases List.mem_append.1 hy with k | k
      · exact hv y (by simp [k])
      · rcases List.mem_cons.1 ((ins_perm x o).mem_iff.1 k) with rfl | k
        · exact hv _ (by simp)
        · exact hv y (by simp [k])
    · rcases List.mem_cons.1 ((ins_perm x o).mem_iff.1 k) with rfl | k
      · exact d1 hy
      · exact hn y (List.mem_cons_of_mem _ hy) k
theorem sort_asc {l : Ss} (hv : ∀ y ∈ l, vldS y = true) (hd : l.Nodup) : Asc (sortS l) := sort_asc_go (by unfold Asc; exact List.Pairwise.nil) (by simpa using hv) hd (by simp)
/-- A list has one ascending order. -/
theorem asc_unique : ∀ {a b : Ss}, Asc a → Asc b → a.Perm b → a = b
  | [], b, _, _, h => (List.nil_perm.1 h).symm
  | _ :: _, [], _, _, h => by simp at h
  | x :: a, y :: b, ha, hb, h => by
    obtain ⟨a1, a2⟩ := List.pairwise_cons.1 ha
    obtain ⟨b1, b2⟩ := List.pairwise_cons.1 hb
    have e : x = y := by
      have m1 := h.mem_iff.1 (List.mem_cons_self (a := x) (l := a))
      have m2 := h.mem_iff.2 (List.mem_cons_self (a := y) (l := b))
      rcases List.mem_cons.1 m1 with k | k
      · exact k
      · rcases List.mem_cons.1 m2 with k2 | k2
        · exact k2.symm
        · have := lessS_asymm (b1 x k)
          rw [a1 y k2] at this
          cases this
    subst e
    rw [asc_unique a2 b2 (List.perm_cons x |>.1 h)]
theorem sort_unique {l m : Ss} (hv : ∀ y ∈ l, vldS y = true) (hd : l.Nodup) (hm : Asc m) (hp : m.Perm l) : m = sortS l := asc_unique hm (sort_asc hv hd) (hp.trans (sort_perm l).symm)
theorem asc_nodup {l : Ss} (h : Asc l) : l.Nodup := h.imp fun {a b} k e => by rw [e, lessS_irrefl] at k; cases k
end Go.Proofs.YtifiljmiehddfaaDoor.NamP
