/-
  Walks of the small functions of the specification of package angle: what each call returns. Condition: none.
-/
import Derived.Test.YtbcoknlkncnmfaaDoorNumA
import Derived.Test.YtbcoknlkncnmfaaDoorAnglePlain
import Derived.Below
namespace Go.Proofs.YtbcoknlkncnmfaaDoor.AngW
open Go.ChangeShapes Go.WideShapes Go.ChangeAt Go.RowKit
open NumP NumW AngP

theorem tmod256 (a : Int) : (a.tmod 256 < 0 → a.tmod 256 + 256 = a % 256) ∧ (0 ≤ a.tmod 256 → a.tmod 256 = a % 256) :=
  ⟨fun h => (down_neg a 256 (by decide) h).2, fun h => (down_pos a 256 (by decide) h).2⟩
theorem tmod256_bd (a : Int) : -256 < a.tmod 256 ∧ a.tmod 256 < 256 := tmod_bd a 256 (by decide)

theorem rnorm_any (a : Int) (w : World) :
    Calls Tryd.prog 76 #[.int .i64 a] w fun e w' => e = .returned (.int .i64 (a % 256)) ∧ w = w' := by
  have hb := tmod256_bd a
  have ht := tmod256 a
  by_cases h0 : 0 ≤ a
  · clear ht hb
    have hm := mod_bd a 256 (by decide)
    go_enter Tryd.func76, Tryd.ntmps76
    go_wp2
    go_ret
    exact ⟨rfl, rfl⟩
  · by_cases h : a.tmod 256 < 0
    · have H := Lib.hid (ht.1 h)
      clear ht
      go_enter Tryd.func76, Tryd.ntmps76
      go_wp2
      go_ret
      exact ⟨ret_int H.out, rfl⟩
    · have H := Lib.hid (ht.2 (by omega))
      clear ht
      go_enter Tryd.func76, Tryd.ntmps76
      go_wp2
      go_ret
      exact ⟨ret_int H.out, rfl⟩
theorem rnorm_at (a v : Int) (w : World) (H : Hid (a % 256 = v)) :
    Calls Tryd.prog 76 #[.int .i64 a] w fun e w' => e = .returned (.int .i64 v) ∧ w = w' := by
  obtain rfl := H.out
  exact rnorm_any a w
end Go.Proofs.YtbcoknlkncnmfaaDoor.AngW
