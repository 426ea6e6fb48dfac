/-
  The law's own examples of package field, walked over what the laws ask of the program. Condition: none.
-/
import Derived.Test.YtedkpkdfopffiaaDoorFieldV
namespace Go.Proofs.YtedkpkdfopffiaaDoor.NamW
open Go.ChangeShapes Go.WideShapes Go.ChangeAt Go.RowKit
open PairW NamP StrW FldP
theorem fl_inj : ∀ {a b : Ss}, fl a = fl b → a = b
  | [], [], _ => rfl
  | [], _ :: _, h => by cases h
  | _ :: _, [], h => by cases h
  | x :: a, y :: b, h => by
    have h : bs x :: fl a = bs y :: fl b := h
    injection h with h1 h2
    rw [bytes_inj h1, fl_inj h2]
theorem fl_inj2 : ∀ {a b : List Ss}, a.map fl = b.map fl → a = b
  | [], [], _ => rfl
  | [], _ :: _, h => by cases h
  | _ :: _, [], h => by cases h
  | x :: a, y :: b, h => by
    rw [List.map_cons, List.map_cons] at h
    injection h with h1 h2
    rw [fl_inj h1, fl_inj2 h2]
def wantS : Ss := [⟨#[97]⟩, ⟨#[]⟩, ⟨#[105, 116, 39, 115]⟩, ⟨#[39, 120]⟩, ⟨#[98, 32, 99]⟩]
theorem want_fl : fl wantS = exWant := rfl
theorem want_sm : Sm wantS := fun s hs => by
  have : s = ⟨#[97]⟩ ∨ s = ⟨#[]⟩ ∨ s = ⟨#[105, 116, 39, 115]⟩ ∨ s = ⟨#[39, 120]⟩ ∨ s = ⟨#[98, 32, 99]⟩ := by simpa [wantS] using hs
  rcases this with rfl | rfl | rfl | rfl | rfl <;> decide
theorem exjoin (C : FieldC) (sv : Value) (w : World) (HP : Hid (Strs w sv wantS)) (M : Hid (Mx w)) :
    Calls Tryd.prog 12 #[sv] w fun e w' => e = .returned (.tuple #[.string ⟨#[97, 32, 39, 39, 32, 105, 116, 39, 115, 32, 39, 39, 39, 120, 39, 32, 39, 98, 32, 99, 39]⟩, .int .i64 0]) ∧ Own w w' := by
  refine (C.join wantS sv 0 w HP (Lib.hid want_sm) (by decide) (Lib.hid (by rw [want_fl]; exact ex_join.1)) M).mono ?_
  rintro e w' ⟨r, rfl, hr, hg⟩
  rw [want_fl, ex_joinV] at hr
  obtain rfl : r = ⟨#[97, 32, 39, 39, 32, 105, 116, 39, 115, 32, 39, 39, 39, 120, 39, 32, 39, 98, 32, 99, 39]⟩ := bytes_inj hr
  exact ⟨rfl, hg⟩
theorem exsplit (C : FieldC) (s : ByteArray) (f : Int) (l : Ss) (n : Nat) (w : World) (hs : s.size ≤ 100000) (H : Hid (splitE (bs s) = f ∧ splitV (bs s) = fl l)) (hn : Hid (l.length = n)) (M : Hid (Mx w)) :
    Calls Tryd.prog 14 #[.string s] w fun e w' => ∃ A c, e = .returned (.tuple #[.slice A n c, .int .i64 f]) ∧ Strs w' (.slice A n c) l ∧ Own w w' := by
  refine (C.split s f w hs (Lib.hid H.out.1) M).mono ?_
  rintro e w' ⟨l', v, rfl, h1, h2, hg⟩
  obtain rfl : l' = l := fl_inj (h2.trans H.out.2)
  have h1' := h1
  obtain ⟨A, c, rfl, _⟩ := h1'
  rw [hn.out] at h1
  exact ⟨A, c, by rw [hn.out], h1, hg⟩
theorem exlines (C : FieldC) (s : ByteArray) (f : Int) (L : List Ss) (n : Nat) (w : World) (hs : s.size ≤ 100000) (H : Hid (linesE (bs s) = f ∧ linesV (bs s) = L.map fl)) (hn : Hid (L.length = n)) (M : Hid (Mx w)) :
    Calls Tryd.prog 17 #[.string s] w fun e w' => ∃ A c, e = .returned (.tuple #[.slice A n c, .int .i64 f]) ∧ Lns w' (.slice A n c) L ∧ Own w w' := by
  refine (C.lines s f w hs (Lib.hid H.out.1) M).mono ?_
  rintro e w' ⟨L', v, rfl, h1, h2, hg⟩
  obtain rfl : L' = L := fl_inj2 (h2.trans H.out.2)
  have h1' := h1
  obtain ⟨A, c, rfl, _⟩ := h1'
  rw [hn.out] at h1
  exact ⟨A, c, by rw [hn.out], h1, hg⟩
theorem strs_one {w : World} {B : Nat} {x : ByteArray} (h : w.cell? ⟨B, 0, none⟩ = some (.string x)) : Strs w (.slice (some ⟨B, 0, none⟩) 1 1) [x] :=
  strs_lit (l := [x]) (Nat.le_refl _) (by unfold maxLen; decide) fun i hi => by
    obtain rfl : i = 0 := by simp at hi; omega
    exact h
theorem strs_two {w : World} {B : Nat} {x y : ByteArray} (h : w.cell? ⟨B, 0, none⟩ = some (.string x)) (k : w.cell? ⟨B, 1, none⟩ = some (.string y)) : Strs w (.slice (some ⟨B, 0, none⟩) 2 2) [x, y] :=
  strs_lit (l := [x, y]) (Nat.le_refl _) (by unfold maxLen; decide) fun i hi => by
    match i, hi with
    | 0, _ => exact h
    | 1, _ => exact k
    | i + 2, hi => simp at hi; omega
theorem lns_two {w : World} {B : Nat} {u v : Value} {x y : Ss} (h : w.cell? ⟨B, 0, none⟩ = some u) (k : w.cell? ⟨B, 1, none⟩ = some v) (hx : Strs w u x) (hy : Strs w v y) : Lns w (.slice (some ⟨B, 0, none⟩) 2 2) [x, y] :=
  ⟨_, 2, rfl, Nat.le_refl _, (by unfold maxLen; decide), fun _ => ⟨B, 0, rfl, fun i hi => by
    match i, hi with
    | 0, _ => exact ⟨u, h, hx⟩
    | 1, _ => exact ⟨v, k, hy⟩
    | i + 2, hi => simp at hi; omega⟩⟩
theorem lit_lines (w : World) : Lns (((w.alloc (.cells #[.string ⟨#[97]⟩, .string ⟨#[98]⟩] 9)).alloc (.cells #[.string ⟨#[100]⟩] 9)).alloc (.cells #[.slice (some ⟨w.heap.size, 0, none⟩) 2 2, .slice (some ⟨w.heap.size + 1, 0, none⟩) 1 1] 22)) (.slice (some ⟨w.heap.size + 1 + 1, 0, none⟩) 2 2) [[⟨#[97]⟩, ⟨#[98]⟩], [⟨#[100]⟩]] := by
  refine lns_two (by go_simp; rfl) (by go_simp; rfl) (strs_two ?_ ?_) (strs_one ?_)
  all_goals go_simp
set_option maxRecDepth 100000 in
set_option maxHeartbeats 4000000 in
theorem awake_any (C : FieldC) (w : World) (M : Hid (Mx w)) : Calls Tryd.prog 11 #[] w fun e w' => e = .returned (.bool true) ∧ Own w w' := by
  have q0 : Own w (w.alloc (.cells #[.string ⟨#[97]⟩, .string ⟨#[]⟩, .string ⟨#[105, 116, 39, 115]⟩, .string ⟨#[39, 120]⟩, .string ⟨#[98, 32, 99]⟩] 9)) := (Own.refl w).alloc _
  have HP : Hid (Strs (w.alloc (.cells #[.string ⟨#[97]⟩, .string ⟨#[]⟩, .string ⟨#[105, 116, 39, 115]⟩, .string ⟨#[39, 120]⟩, .string ⟨#[98, 32, 99]⟩] 9)) (.slice (some ⟨w.heap.size, 0, none⟩) 5 5) wantS) :=
    Lib.hid (strs_lit (l := wantS) (Nat.le_refl _) (by unfold maxLen; decide) fun i hi => by
      match i, hi with
      | 0, _ => go_simp; rfl
      | 1, _ => go_simp; rfl
      | 2, _ => go_simp; rfl
      | 3, _ => go_simp; rfl
      | 4, _ => go_simp; rfl
      | i + 5, hi => simp [wantS] at hi; omega)
  have S1 := Lib.hid (show splitE (bs ⟨#[97, 32, 39, 39, 32, 105, 116, 39, 115, 32, 39, 39, 39, 120, 39, 32, 39, 98, 32, 99, 39]⟩) = 0 ∧ splitV (bs ⟨#[97, 32, 39, 39, 32, 105, 116, 39, 115, 32, 39, 39, 39, 120, 39, 32, 39, 98, 32, 99, 39]⟩) = fl wantS from ex_split)
  have N1 := Lib.hid (show wantS.length = 5 from rfl)
  have S2 := Lib.hid (show splitE (bs ⟨#[97, 32, 32, 98]⟩) = 2 ∧ splitV (bs ⟨#[97, 32, 32, 98]⟩) = fl [] from ex_two)
  have S3 := Lib.hid (show splitE (bs ⟨#[39, 97, 39]⟩) = 2 ∧ splitV (bs ⟨#[39, 97, 39]⟩) = fl [] from ex_quote)
  have S4 := Lib.hid (show splitE (bs ⟨#[]⟩) = 0 ∧ splitV (bs ⟨#[]⟩) = fl [] from ex_none)
  have S5 := Lib.hid (show splitE (bs ⟨#[97, 32]⟩) = 2 ∧ splitV (bs ⟨#[97, 32]⟩) = fl [] from ex_blank)
  have N0 := Lib.hid (show ([] : Ss).length = 0 from rfl)
  have L1 := Lib.hid (show linesE (bs ⟨#[97, 32, 98, 10, 10, 37, 32, 99, 10, 100, 10]⟩) = 0 ∧ linesV (bs ⟨#[97, 32, 98, 10, 10, 37, 32, 99, 10, 100, 10]⟩) = [[⟨#[97]⟩, ⟨#[98]⟩], [⟨#[100]⟩]].map fl from ex_lines)
  have L2 := Lib.hid (show linesE (bs ⟨#[97]⟩) = 2 ∧ linesV (bs ⟨#[97]⟩) = ([] : List Ss).map fl from ex_form)
  have M2 := Lib.hid (show ([[⟨#[97]⟩, ⟨#[98]⟩], [⟨#[100]⟩]] : List Ss).length = 2 from rfl)
  have M0 := Lib.hid (show ([] : List Ss).length = 0 from rfl)
  have U1 := Lib.hid (show numberV (bs ⟨#[45, 49, 50]⟩) = -12 ∧ numberE (bs ⟨#[45, 49, 50]⟩) = 0 from ex_n1)
  have U2 := Lib.hid (show numberV (bs ⟨#[48, 48, 55]⟩) = 0 ∧ numberE (bs ⟨#[48, 48, 55]⟩) = 2 from ex_n2)
  have U3 := Lib.hid (show numberV (bs ⟨#[45, 48]⟩) = 0 ∧ numberE (bs ⟨#[45, 48]⟩) = 2 from ex_n3)
  have U4 := Lib.hid (show numberV (bs ⟨#[49, 49, 50, 53, 56, 57, 57, 57, 48, 54, 56, 52, 50, 54, 50, 53]⟩) = 0 ∧ numberE (bs ⟨#[49, 49, 50, 53, 56, 57, 57, 57, 48, 54, 56, 52, 50, 54, 50, 53]⟩) = 1 from ex_n4)
  have Z1 := Lib.hid (show (⟨#[97, 32, 39, 39, 32, 105, 116, 39, 115, 32, 39, 39, 39, 120, 39, 32, 39, 98, 32, 99, 39]⟩ : ByteArray).size ≤ 100000 by decide)
  have Z2 := Lib.hid (show (⟨#[97, 32, 32, 98]⟩ : ByteArray).size ≤ 100000 by decide)
  have Z3 := Lib.hid (show (⟨#[39, 97, 39]⟩ : ByteArray).size ≤ 100000 by decide)
  have Z4 := Lib.hid (show (⟨#[]⟩ : ByteArray).size ≤ 100000 by decide)
  have Z5 := Lib.hid (show (⟨#[97, 32]⟩ : ByteArray).size ≤ 100000 by decide)
  have Z6 := Lib.hid (show (⟨#[97, 32, 98, 10, 10, 37, 32, 99, 10, 100, 10]⟩ : ByteArray).size ≤ 100000 by decide)
  have Z7 := Lib.hid (show (⟨#[97]⟩ : ByteArray).size ≤ 100000 by decide)
  have Y1 := Lib.hid (show (⟨#[45, 49, 50]⟩ : ByteArray).size ≤ 100000 by decide)
  have Y2 := Lib.hid (show (⟨#[48, 48, 55]⟩ : ByteArray).size ≤ 100000 by decide)
  have Y3 := Lib.hid (show (⟨#[45, 48]⟩ : ByteArray).size ≤ 100000 by decide)
  have Y4 := Lib.hid (show (⟨#[49, 49, 50, 53, 56, 57, 57, 57, 48, 54, 56, 52, 50, 54, 50, 53]⟩ : ByteArray).size ≤ 100000 by decide)
  go_enter Tryd.func11, Tryd.ntmps11
  go_upto_region 2 with (fail)
  generalize w.alloc (.cells #[.string ⟨#[97]⟩, .string ⟨#[]⟩, .string ⟨#[105, 116, 39, 115]⟩, .string ⟨#[39, 120]⟩, .string ⟨#[98, 32, 99]⟩] 9) = W0 at *
  obtain ⟨B, hB⟩ : ∃ B, w.heap.size = B := ⟨_, rfl⟩
  rw [hB] at HP ⊢
  clear hB
  go_upto_region 3 with (go_at_call 12; with_reducible refine (exjoin C _ _ HP (mxo M q0)).mono ?_; rintro e w1 ⟨rfl, hg⟩; replace HP := Lib.hid (HP.out.own hg); replace q0 := q0.trans hg; clear hg)
  go_upto_region 4 with (go_at_call 14; with_reducible refine (exsplit C _ 0 wantS 5 _ Z1.out S1 N1 (mxo M q0)).mono ?_; rintro e w2 ⟨A1, c1, rfl, hp, hg⟩; replace HP := Lib.hid (HP.out.own hg); replace q0 := q0.trans hg; clear hg)
  have HP1 := Lib.hid hp
  clear hp
  go_upto_region 6 with (go_at_call 16; with_reducible refine (same_yes wantS _ _ _ HP1 HP).mono ?_; rintro e w3 ⟨rfl, hd⟩; replace q0 := q0.trans (Drew.own hd); clear hd)
  clear HP HP1
  go_upto_region 12 with (go_at_call 14; (first
    | (with_reducible refine (exsplit C ⟨#[97, 32, 32, 98]⟩ 2 [] 0 _ Z2.out S2 N0 (mxo M q0)).mono ?_; rintro e w4 ⟨A2, c2, rfl, _, hg⟩; replace q0 := q0.trans hg; clear hg)
    | (with_reducible refine (exsplit C ⟨#[39, 97, 39]⟩ 2 [] 0 _ Z3.out S3 N0 (mxo M q0)).mono ?_; rintro e w5 ⟨A3, c3, rfl, _, hg⟩; replace q0 := q0.trans hg; clear hg)
    | (with_reducible refine (exsplit C ⟨#[]⟩ 0 [] 0 _ Z4.out S4 N0 (mxo M q0)).mono ?_; rintro e w6 ⟨A4, c4, rfl, _, hg⟩; replace q0 := q0.trans hg; clear hg)
    | (with_reducible refine (exsplit C ⟨#[97, 32]⟩ 2 [] 0 _ Z5.out S5 N0 (mxo M q0)).mono ?_; rintro e w7 ⟨A5, c5, rfl, _, hg⟩; replace q0 := q0.trans hg; clear hg)))
  go_upto_region 13 with (go_at_call 17; with_reducible refine (exlines C _ 0 [[⟨#[97]⟩, ⟨#[98]⟩], [⟨#[100]⟩]] 2 _ Z6.out L1 M2 (mxo M q0)).mono ?_; rintro e w8 ⟨A6, c6, rfl, hp, hg⟩; replace q0 := q0.trans hg; clear hg)
  have HL := Lib.hid hp
  clear hp
  go_upto_region 14 with (go_at_call 17; with_reducible refine (exlines C _ 2 [] 0 _ Z7.out L2 M0 (mxo M q0)).mono ?_; rintro e w9 ⟨A7, c7, rfl, _, hg⟩; replace HL := Lib.hid (HL.out.own hg); replace q0 := q0.trans hg; clear hg)
  have HB := Lib.hid (lit_lines w9)
  have HLX : Hid (Lns (((w9.alloc (.cells #[.string ⟨#[97]⟩, .string ⟨#[98]⟩] 9)).alloc (.cells #[.string ⟨#[100]⟩] 9)).alloc (.cells #[.slice (some ⟨w9.heap.size, 0, none⟩) 2 2, .slice (some ⟨w9.heap.size + 1, 0, none⟩) 1 1] 22)) (.slice A6 2 c6) [[⟨#[97]⟩, ⟨#[98]⟩], [⟨#[100]⟩]]) := Lib.hid (HL.out.own ((((Own.refl w9).alloc _).alloc _).alloc _))
  go_upto_region 16 with (go_at_call 19; with_reducible refine (sameL_yes _ _ _ _ HLX HB).mono ?_; rintro e w10 ⟨rfl, hd⟩; replace q0 := (((q0.alloc _).alloc _).alloc _).trans (Drew.own hd); clear hd)
  clear HB HLX
  clear HL
  go_wp2_with (go_at_call 22; (first
    | (with_reducible refine (C.number ⟨#[45, 49, 50]⟩ (-12) 0 _ Y1.out U1).mono ?_; rintro e w11 ⟨rfl, hg⟩; replace q0 := q0.trans hg; clear hg)
    | (with_reducible refine (C.number ⟨#[48, 48, 55]⟩ 0 2 _ Y2.out U2).mono ?_; rintro e w12 ⟨rfl, hg⟩; replace q0 := q0.trans hg; clear hg)
    | (with_reducible refine (C.number ⟨#[45, 48]⟩ 0 2 _ Y3.out U3).mono ?_; rintro e w13 ⟨rfl, hg⟩; replace q0 := q0.trans hg; clear hg)
    | (with_reducible refine (C.number ⟨#[49, 49, 50, 53, 56, 57, 57, 57, 48, 54, 56, 52, 50, 54, 50, 53]⟩ 0 1 _ Y4.out U4).mono ?_; rintro e w14 ⟨rfl, hg⟩; replace q0 := q0.trans hg; clear hg)))
  go_ret
  exact ⟨rfl, q0⟩
end Go.Proofs.YtedkpkdfopffiaaDoor.NamW
