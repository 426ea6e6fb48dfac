/-
  Walks of the program of package wire: PutInt, PutText, PutList. Condition: none.
-/
import Derived.Test.YtbplglndcagglaaWirePA
import Derived.Test.YtbplglndcagglaaWirePB
import Derived.Test.YtbplglndcagglaaWireG
import Derived.Test.YtbplglndcagglaaWirePlainC
namespace Go.Proofs.Ytbplglndcagglaa.WirW
open Go.ChangeShapes Go.WideShapes Go.ChangeAt Go.RowKit
open PairW CelW WirP
theorem par_two {w : World} {Q : Nat} {v0 v1 : Value} {a b : Bs} (h0 : w.cell? ⟨Q, 0, none⟩ = some v0) (h1 : w.cell? ⟨Q, 1, none⟩ = some v1) (c0 : Cel w v0 (cellsU a)) (c1 : Cel w v1 (cellsU b)) : Par w Q [a, b] := fun i hi => by
  have hi : i < 2 := hi
  match i, hi with
  | 0, _ => exact ⟨v0, h0, c0⟩
  | 1, _ => exact ⟨v1, h1, c1⟩
theorem par_three {w : World} {Q : Nat} {v0 v1 v2 : Value} {a b c : Bs} (h0 : w.cell? ⟨Q, 0, none⟩ = some v0) (h1 : w.cell? ⟨Q, 1, none⟩ = some v1) (h2 : w.cell? ⟨Q, 2, none⟩ = some v2) (c0 : Cel w v0 (cellsU a)) (c1 : Cel w v1 (cellsU b)) (c2 : Cel w v2 (cellsU c)) : Par w Q [a, b, c] := fun i hi => by
  have hi : i < 3 := hi
  match i, hi with
  | 0, _ => exact ⟨v0, h0, c0⟩
  | 1, _ => exact ⟨v1, h1, c1⟩
  | 2, _ => exact ⟨v2, h2, c2⟩
theorem par_new2 {w : World} {T : TypeId} {v0 v1 : Value} {a b : Bs} (c0 : Cel w v0 (cellsU a)) (c1 : Cel w v1 (cellsU b)) : Par (w.alloc (.cells #[v0, v1] T)) w.heap.size [a, b] :=
  par_two (by go_simp) (by go_simp) (c0.own ((Own.refl w).alloc _)) (c1.own ((Own.refl w).alloc _))
theorem par_new3 {w : World} {T : TypeId} {v0 v1 v2 : Value} {a b c : Bs} (c0 : Cel w v0 (cellsU a)) (c1 : Cel w v1 (cellsU b)) (c2 : Cel w v2 (cellsU c)) : Par (w.alloc (.cells #[v0, v1, v2] T)) w.heap.size [a, b, c] :=
  par_three (by go_simp) (by go_simp) (by go_simp) (c0.own ((Own.refl w).alloc _)) (c1.own ((Own.refl w).alloc _)) (c2.own ((Own.refl w).alloc _))
theorem row_base {w : World} {b0 b : Nat} {e : TypeId} {sv : Value} {n : Nat} {xs : List Value} (h : w.ownsRow b e 1 sv n xs) (hb : b0 ≤ b) : w.ownsRow b0 e 1 sv n xs := by
  refine ⟨h.1, h.2.imp id ?_⟩
  rintro ⟨g, cap, cur, h1, h2, h3⟩
  exact ⟨g, cap, cur, h1, by omega, h3⟩
set_option maxRecDepth 100000 in
set_option maxHeartbeats 1000000 in
theorem pput_at (b : Bs) (v : Value) (n : Int) (w : World) (HB : Hid (Cel w v (cellsU b))) (hn : I64 n) (hl : b.length ≤ 140737488355000) :
    Calls Try.prog 25 #[v, .int .i64 n] w fun e w' => ∃ v', e = .returned v' ∧ w'.ownsRow w.heap.size 5 1 v' (b ++ encI n).length (cellsU (b ++ encI n)) ∧ Own w w' := by
  obtain ⟨A, c, rfl, hc1, hc2⟩ := cel_form HB.out
  clear hc1 hc2
  have HN := Lib.hid hn
  have HR0 := Lib.hid (World.ownsRow_nil w w.heap.size 5 1)
  have HL := Lib.hid (show [b, encI n].flatten.length ≤ 140737488355328 by have := enc_ten hn; simp; omega)
  have HFL := Lib.hid (show [b, encI n].flatten = b ++ encI n by simp)
  obtain ⟨k, hk⟩ : ∃ k, (cellsU b).length = k := ⟨_, rfl⟩
  rw [hk] at HB ⊢
  clear hn hl hk
  go_enter Try.func25, Try.ntmps25
  go_wp2_with (first
    | (go_at_call 34; with_reducible refine (pappend_at [] _ n w.heap.size w _ HR0 (Lib.hid (Own.refl w)) (Nat.le_refl _) (Nat.le_refl _) HN.out (Nat.zero_le _)).mono ?_; rintro e w1 ⟨v1, rfl, hown1, q1, hs1⟩; obtain ⟨A1, cp1, rfl⟩ := row_shape hown1)
    | (go_at_call 26; refine (concat_at [b, encI n] _ 2 _ (Lib.hid (par_new2 (HB.out.own q1) (cel_of_row hown1))) (Lib.hid rfl) (by decide) HL.out).mono ?_; rintro e w2 ⟨v2, rfl, hown2, q2⟩))
  go_ret
  rw [HFL.out] at hown2
  exact ⟨_, rfl, row_base hown2 (Nat.le_trans hs1 ((Own.refl w1).alloc _).size), (q1.alloc _).trans q2⟩
end Go.Proofs.Ytbplglndcagglaa.WirW
