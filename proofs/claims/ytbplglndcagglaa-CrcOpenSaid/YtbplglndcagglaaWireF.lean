/-
  Walks of the specification of package wire: TakeText. Condition: none.
-/
import Derived.Test.YtbplglndcagglaaWireD
import Derived.Laws.BytesArg
namespace Go.Proofs.Ytbplglndcagglaa.WirW
open Go.ChangeShapes Go.WideShapes Go.ChangeAt Go.RowKit
open PairW CelW WirP
/-- A text of a slice's bytes. -/
def strB (l : Bs) : ByteArray := ⟨l.toArray⟩
theorem strB_data (l : Bs) : (strB l).data.toList = l := rfl
theorem strB_bytes (s : ByteArray) : strB s.data.toList = s := ByteArray.ext (by simp [strB])
theorem conv_at {P : Program} {w : World} {g off len cap : Nat} {l : Bs} (hl : l.length = len) (hc : ∀ i (hi : i < l.length), w.cell? ⟨g, off + i, none⟩ = some (.int .u8 (l[i].toNat : Int))) {src e dst : TypeId} (hs : P.underlying src = some (.slice e)) (he : P.underlying e = some (.int .u8)) (hd : P.underlying dst = some .string) :
    (convert src dst (.slice (some ⟨g, off, none⟩) len cap)).run P w = .ok (.string (strB l)) w := by
  have h := run_convert_bytes_arg (P := P) w src e hs he g off len cap (l.map fun c => (c.toNat : Int)) (by rw [List.length_map, hl]) (fun i hi => by
    have hi' : i < l.length := by omega
    rw [hc i hi', List.getD_eq_getElem?_getD, List.getElem?_map, List.getElem?_eq_getElem hi']
    rfl) dst hd
  rw [h]
  congr 2
  apply ByteArray.ext
  apply Array.toList_inj.1
  rw [strOfNums_data, List.map_map, strB_data]
  conv => rhs; rw [← List.map_id l]
  apply List.map_congr_left
  intro x _
  simp
end Go.Proofs.Ytbplglndcagglaa.WirW
