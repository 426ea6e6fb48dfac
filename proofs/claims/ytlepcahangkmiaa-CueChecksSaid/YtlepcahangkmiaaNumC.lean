/-
  Walks of Round and Lerp of package num and of Round, Floor and Lerp of the specification: what each call returns for every input, at every world. Condition: the arguments are numbers of 64 bits.
-/
import Derived.Test.YtlepcahangkmiaaNumB
namespace Go.Proofs.Ytlepcahangkmiaa.NumW
open Go.ChangeShapes Go.WideShapes Go.ChangeAt Go.RowKit
open NumP

theorem floor_at (a b q r f : Int) (w : World) (H : Hid (floorQ a b = q ∧ floorR a b = r ∧ floorE a b = f)) :
    Calls Try.prog 36 #[.int .i64 a, .int .i64 b] w fun e w' => e = .returned (.tuple #[.int .i64 q, .int .i64 r, .int .i64 f]) ∧ Drew w w' := by
  obtain ⟨rfl, rfl, rfl⟩ := H.out
  exact floor_any a b w

theorem neg_small (a : Int) (h0 : -9223372036854775808 ≤ a) (h1 : a ≤ 9223372036854775807) : smallB (wrap64 (-a)) = smallB a := by
  rw [Bool.eq_iff_iff, small_iff, small_iff]
  unfold wrap64
  omega


end Go.Proofs.Ytlepcahangkmiaa.NumW
