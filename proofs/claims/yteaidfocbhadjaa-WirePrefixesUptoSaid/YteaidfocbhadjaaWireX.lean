/-
  Package wire: the chapter's examples; the laws' takes. Condition: none.
-/
import Derived.Test.YteaidfocbhadjaaWireV
namespace Go.Proofs.Yteaidfocbhadjaa.WirW
open Go.ChangeShapes Go.WideShapes Go.ChangeAt Go.RowKit
open PairW CelW WirP
theorem ex_150 : encI 150 = [172, 2] := by
  unfold encI
  rw [show codeN 150 = 300 from rfl, var_big (by omega), show 300 / 128 = 2 from rfl, var_small (by omega)]
  rfl
theorem ex_n64 : encI (-64) = [127] := by
  unfold encI
  rw [show codeN (-64) = 127 from rfl, var_small (by omega)]
  rfl
theorem ex_64 : encI 64 = [128, 1] := by
  unfold encI
  rw [show codeN 64 = 128 from rfl, var_big (by omega), show 128 / 128 = 1 from rfl, var_small (by omega)]
  rfl
theorem ex_small {n : Int} (u : Nat) (h : codeN n = u) (hu : u < 128) : encI n = [byteN u] := by
  unfold encI
  rw [h, var_small hu]
theorem ex_hi : encT [104, 105] = [4, 104, 105] := by
  unfold encT
  rw [ex_small 4 rfl (by omega)]
  rfl
theorem ex_list : encL [1, -1] = [4, 2, 1] := by
  unfold encL
  rw [ex_small 4 rfl (by omega)]
  unfold encs encs encs
  rw [ex_small 2 rfl (by omega), ex_small 1 rfl (by omega)]
  rfl
theorem ex_t1 : takeE [172, 2, 9] = 0 ∧ takeV [172, 2, 9] = 150 ∧ takeK [172, 2, 9] = 2 := by
  have h := take_enc (n := 150) (by omega) [9]
  rw [ex_150] at h
  exact h
theorem ex_t2 : takeE [] = 13 ∧ takeV [] = 0 ∧ takeK [] = 0 := take_none rfl
theorem ex_t3 : takeE [128] = 13 ∧ takeV [128] = 0 ∧ takeK [128] = 0 := take_none rfl
theorem ex_t4 : takeE [128, 0] = 2 ∧ takeV [128, 0] = 0 ∧ takeK [128, 0] = 0 := by
  have h : takeE [128, 0] = 2 := rfl
  exact ⟨h, take_bad (by rw [h]; decide)⟩
theorem ex_t5 : takeE [255, 255, 255, 255, 255, 255, 255, 255, 255, 2] = 12 ∧ takeV [255, 255, 255, 255, 255, 255, 255, 255, 255, 2] = 0 ∧ takeK [255, 255, 255, 255, 255, 255, 255, 255, 255, 2] = 0 := by
  have h : takeE [255, 255, 255, 255, 255, 255, 255, 255, 255, 2] = 12 := rfl
  exact ⟨h, take_bad (by rw [h]; decide)⟩
theorem ex_x1 : textE [4, 104, 105] 2 = 0 ∧ textV [4, 104, 105] 2 = [104, 105] ∧ textK [4, 104, 105] 2 = 3 := by
  have h := text_enc (s := [104, 105]) (by decide) [] (most := 2) (by decide)
  rw [ex_hi] at h
  exact h
theorem ex_x2 : textE [4, 104, 105] 1 = 3 ∧ textV [4, 104, 105] 1 = [] ∧ textK [4, 104, 105] 1 = 0 := by
  have h : textE [4, 104, 105] 1 = 3 := rfl
  exact ⟨h, text_bad (by rw [h]; decide)⟩
theorem ex_x3 : textE [1] 9 = 2 ∧ textV [1] 9 = [] ∧ textK [1] 9 = 0 := by
  have h : textE [1] 9 = 2 := rfl
  exact ⟨h, text_bad (by rw [h]; decide)⟩
theorem ex_l1 : listE [4, 2, 1, 7] 2 = 0 ∧ listV [4, 2, 1, 7] 2 = [1, -1] ∧ listK [4, 2, 1, 7] 2 = 3 := by
  have h := list_enc (l := [1, -1]) (by decide) (by intro x hx; simp at hx; omega) [7] (most := 2) (by decide)
  rw [ex_list] at h
  exact h
theorem cel_lit {w : World} {T : TypeId} {cs : Array Value} {xs : List Value} {k : Nat} (h : cs.toList = xs) (hk : xs.length = k) (hm : k ≤ maxLen) : Cel (w.alloc (.cells cs T)) (.slice (some ⟨w.heap.size, 0, none⟩) k k) xs := by
  subst hk
  refine ⟨_, xs.length, rfl, Nat.le_refl _, hm, fun _ => ⟨w.heap.size, 0, rfl, fun i u hu => ?_⟩⟩
  rw [Nat.zero_add]
  subst h
  have hu' : cs[i]? = some u := by simpa using hu
  have h0 : (w.alloc (.cells cs T)).heap[w.heap.size]? = some (.cells cs T (0, 0)) := heap_alloc_new w _
  unfold World.cell?
  simp only [h0]
  exact hu'
set_option maxRecDepth 100000 in
theorem takes_yes (C : TakeC) (b : Bs) (v : Value) (n : Int) (k : Nat) (f : Int) (w : World) (HB : Hid (Cel w v (cellsU b))) (H : Hid (takeE b = f ∧ takeV b = n ∧ takeK b = k)) :
    Calls Try.prog 34 #[.int .i64 n, .int .i64 (k : Int), .int .i64 f, v] w fun e w' => e = .returned (.bool true) ∧ Own w w' := by
  go_enter Try.func34, Try.ntmps34
  go_wp2_with (go_at_call 11; with_reducible refine (C.int b v f n k _ HB H).mono ?_; rintro e w1 ⟨rfl, q1⟩)
  go_ret
  exact ⟨rfl, q1⟩
end Go.Proofs.Yteaidfocbhadjaa.WirW
