/-
  Walks of the specification of package wire: PutList. Condition: none.
-/
import Derived.Test.YteaidfocbhadjaaWireC
namespace Go.Proofs.Yteaidfocbhadjaa.WirW
open Go.ChangeShapes Go.WideShapes Go.ChangeAt Go.RowKit
open PairW CelW WirP
def cellsI (l : List Int) : List Value := l.map (Value.int .i64)
theorem cellsI_len (l : List Int) : (cellsI l).length = l.length := List.length_map ..
theorem cellsI_app (a b : List Int) : cellsI (a ++ b) = cellsI a ++ cellsI b := List.map_append
theorem cellsI_one (l : List Int) : ∀ u ∈ cellsI l, u.oneCell' = true := fun u hu => by
  obtain ⟨c, _, rfl⟩ := List.mem_map.1 hu
  rfl
theorem cellsI_at {l : List Int} {i : Nat} (h : i < l.length) : (cellsI l)[i]? = some (.int .i64 l[i]) := by
  unfold cellsI
  rw [List.getElem?_map, List.getElem?_eq_getElem h]
  rfl
theorem cel_ints {w : World} {v : Value} {l : List Int} (h : Cel w v (cellsI l)) : ∃ A cap, v = .slice A l.length cap ∧ l.length ≤ cap ∧ cap ≤ maxLen ∧ (0 < l.length → ∃ g off : Nat, A = some ⟨g, off, none⟩ ∧ ∀ i (hi : i < l.length), w.cell? ⟨g, off + i, none⟩ = some (.int .i64 l[i])) := by
  obtain ⟨A, cap, h1, h2, h3, h4⟩ := h
  rw [cellsI_len] at h1 h2 h4
  refine ⟨A, cap, h1, h2, h3, fun h0 => ?_⟩
  obtain ⟨g, off, h5, h6⟩ := h4 h0
  exact ⟨g, off, h5, fun i hi => h6 i _ (cellsI_at hi)⟩
theorem row_lower {w : World} {base base' : Nat} {e : TypeId} {size : Nat} {v : Value} {n : Nat} {xs : List Value} (h : w.ownsRow base e size v n xs) (hb : base' ≤ base) : w.ownsRow base' e size v n xs := by
  refine ⟨h.1, ?_⟩
  rcases h.2 with h | ⟨g, cap, cur, h1, h2, h3⟩
  · exact .inl h
  · exact .inr ⟨g, cap, cur, h1, Nat.le_trans hb h2, h3⟩
theorem encs_app : ∀ (a b : List Int), encs (a ++ b) = encs a ++ encs b
  | [], b => rfl
  | x :: a, b => by
    show encI x ++ encs (a ++ b) = (encI x ++ encs a) ++ encs b
    rw [encs_app a b, List.append_assoc]
theorem encs_take {l : List Int} {k : Nat} (h : k < l.length) : encs (l.take (k + 1)) = encs (l.take k) ++ encI l[k] := by
  rw [List.take_succ_eq_append_getElem h, encs_app]
  show _ ++ (encI _ ++ []) = _
  rw [List.append_nil]
set_option maxRecDepth 100000 in
theorem rputlist_at (b : Bs) (l : List Int) (v vl : Value) (w : World) (HB : Hid (Cel w v (cellsU b))) (HL : Hid (Cel w vl (cellsI l))) (hi : In64 l) (hl : b.length + 10 * (l.length + 1) ≤ 140737488355000) :
    Calls Try.prog 26 #[v, vl] w fun e w' => ∃ v', e = .returned v' ∧ w'.ownsRow w.heap.size 5 1 v' (b ++ encL l).length (cellsU (b ++ encL l)) ∧ Own w w' := by
  obtain ⟨A, cap, rfl, h1, h2, h3⟩ := cel_ints HL.out
  unfold maxLen at h2
  have HC := Lib.hid h3
  obtain ⟨n, hn⟩ : ∃ n, l.length = n := ⟨_, rfl⟩
  have HN := Lib.hid hn
  have HIN := Lib.hid hi
  have HX := Lib.hid (show b ++ encL l = (b ++ encI (n : Int)) ++ encs l by unfold encL; rw [hn, List.append_assoc])
  rw [hn] at h1 hl ⊢
  have hin : I64 (n : Int) := ⟨by omega, by omega⟩
  have hten : (encI (n : Int)).length ≤ 10 := enc_ten hin
  have HI0 := Lib.hid hin
  obtain ⟨X, hX⟩ : ∃ X, b ++ encI (n : Int) = X := ⟨_, rfl⟩
  have hXL : X.length ≤ b.length + 10 := by rw [← hX, List.length_append]; omega
  rw [hX] at HX
  have HXE := Lib.hid hX
  have hbl : b.length ≤ 140737488355000 := by omega
  obtain ⟨B, hB⟩ : ∃ B, b.length = B := ⟨_, rfl⟩
  rw [hB] at hXL hl
  have HXL := Lib.hid hXL
  have HLL := Lib.hid hl
  clear hi hn h3 hten hin hX hXL hl hB HL
  go_enter Try.func26, Try.ntmps26
  go_upto_region 2 with (go_at_call 16; with_reducible refine (rput_at b v (n : Int) _ HB HI0.out hbl).mono ?_; rintro e w1 ⟨v1, rfl, hown1, q1⟩; rw [HXE.out] at hown1)
  have HO1 := Lib.hid hown1
  clear hown1
  go_upto_region 3 with (fail)
  go_loopw [5, 6] (fun vo vi wr => ∃ (k : Nat) (P : Bs), vi = .int .i64 (k : Int) ∧ k ≤ n ∧ Own w wr ∧ wr.ownsRow w.heap.size 5 1 vo P.length (cellsU P) ∧ P = X ++ encs (l.take k) ∧ P.length ≤ B + 10 * (k + 1)) (fun _ vi _ => n - (intOf vi).toNat)
  case atStart => exact ⟨0, X, rfl, Nat.zero_le _, q1, HO1.out, by rw [List.take_zero]; exact (List.append_nil X).symm, HXL.out⟩
  case round =>
    obtain ⟨k, P, rfl, hk, q, hrow, hP, hPL⟩ := hrel
    have HROW := Lib.hid hrow
    have HP := Lib.hid hP
    have HPL := Lib.hid hPL
    clear hrow hP hPL
    by_cases hlt : k < n
    · have hkl : k < l.length := by rw [HN.out]; exact hlt
      obtain ⟨g, off, rfl, hc⟩ := HC.out (by omega)
      have e0 := q.cell (hc k hkl)
      have HT := Lib.hid (encs_take hkl)
      obtain ⟨y, hy⟩ : ∃ y, l[k] = y := ⟨_, rfl⟩
      have HY := Lib.hid (show I64 y by rw [← hy]; exact HIN.out _ (List.getElem_mem hkl))
      have HTEN := Lib.hid (enc_ten HY.out)
      rw [hy] at e0 HT
      have hkn : (k : Int) < n := by omega
      have HCP := Lib.hid (cel_of_row HROW.out)
      have hpl : P.length ≤ 140737488355000 := by have := HPL.out; have := HLL.out; omega
      clear hc hy hkl
      go_wp2_with (go_at_call 16; with_reducible refine (rput_at P _ y _ HCP HY.out hpl).mono ?_; rintro e w3 ⟨v3, rfl, hown3, q3⟩)
      go_roundw
      case rel => exact ⟨k + 1, P ++ encI y, by go_num, hlt, q.trans q3, row_lower hown3 q.size, by rw [HP.out, HT.out, List.append_assoc], by rw [List.length_append]; have := HPL.out; have := HTEN.out; omega⟩
      case measure => simp [intOf]; omega
    · obtain rfl : k = n := by omega
      have HE := Lib.hid (show b ++ encL l = P by rw [HX.out, HP.out, List.take_of_length_le (by rw [HN.out]; exact Nat.le_refl _)])
      go_wp2
      go_ret
      exact ⟨_, rfl, by rw [HE.out]; exact HROW.out, q⟩
end Go.Proofs.Yteaidfocbhadjaa.WirW
