/-
  Walk of the law SpanFrees. Condition: none.
-/
import Derived.Test.YtggceakihapgiaaSpanI
namespace Go.Proofs.Ytggceakihapgiaa.SpaW
open Go.ChangeShapes Go.WideShapes Go.ChangeAt Go.RowKit
open PairW SpaP

set_option maxRecDepth 100000 in
set_option maxHeartbeats 4000000 in
theorem SpanFrees_walk (l : List Sp) (sv : Value) (n most : Int) (w : World) (HP : Hid (Pts w sv l)) :
    Calls Try.prog 9 #[sv, .int .i64 n, .int .i64 most] w fun e w' => e = .returned (.bool true) ∧ Own w w' := by
  obtain ⟨f, hf⟩ : ∃ d, freeE l n most = d := ⟨_, rfl⟩
  obtain ⟨⟨x, y⟩, hv⟩ : ∃ d, freeV l n most = d := ⟨_, rfl⟩
  have H := Lib.hid (And.intro hf hv)
  have hpt : ptB x y x y = true := ptB_yes rfl
  clear hf hv
  have g0 := Own.refl w
  go_enter Try.func9, Try.ntmps9
  go_upto_region 2 with (go_at_call 29; refine (pfree_at l n most (x, y) f _ _ H HP).mono ?_; rintro e w1 ⟨rfl, hg⟩; replace HP := Lib.hid (HP.out.own hg); replace g0 : Own w w1 := g0.trans hg; clear hg)
  obtain ⟨k0, k1, _, _⟩ := pt_new w1 x y 36
  replace HP := Lib.hid (HP.out.own ((Own.refl w1).alloc (.cells #[.int .i64 x, .int .i64 y] 36)))
  replace g0 := g0.alloc (.cells #[.int .i64 x, .int .i64 y] 36)
  generalize w1.alloc (.cells #[.int .i64 x, .int .i64 y] 36) = W1 at *
  generalize w1.heap.size = K1 at *
  go_upto_region 3 with (go_at_call 30; refine (rfree_at l n most (x, y) f _ _ H HP).mono ?_; rintro e w2 ⟨rfl, hg⟩; replace k0 := hg.cell k0; replace k1 := hg.cell k1; replace g0 : Own w w2 := g0.trans hg; clear hg)
  obtain ⟨k2, k3, _, _⟩ := pt_new w2 x y 36
  replace k0 := ((Own.refl w2).alloc (.cells #[.int .i64 x, .int .i64 y] 36)).cell k0
  replace k1 := ((Own.refl w2).alloc (.cells #[.int .i64 x, .int .i64 y] 36)).cell k1
  replace g0 := g0.alloc (.cells #[.int .i64 x, .int .i64 y] 36)
  generalize w2.alloc (.cells #[.int .i64 x, .int .i64 y] 36) = W2 at *
  generalize w2.heap.size = K2 at *
  go_wp2_with (go_at_call 16; refine (awake_any _).mono ?_; rintro e w3 ⟨rfl, hg⟩; replace g0 : Own w w3 := g0.trans hg; clear hg)
  go_ret
  exact ⟨rfl, g0⟩
end Go.Proofs.Ytggceakihapgiaa.SpaW
